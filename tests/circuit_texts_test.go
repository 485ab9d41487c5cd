package tests

import (
	"math/rand/v2"
	"slices"
	"strings"
	"testing"

	"loop.example/registrar/impl"
)

// full is a circuit that meets every limit.
func full() impl.Aig {
	return drawAig(drawer(31), impl.InputMax, impl.LatchMax, impl.AndMax, impl.BadMax)
}

// P18
func TestCircuitsAreReadBack(t *testing.T) {
	eachCircuit(32, func(r *rand.Rand, a impl.Aig) {
		text := impl.AigPut(a)
		if want := putByHand(a); text != want {
			t.Fatalf("%v: %q, want %q", a, text, want)
		}
		got, ok := impl.AigGet(text)
		if !ok || !sameAig(got, a) {
			t.Fatalf("%v: %q is read as %v %v", a, text, got, ok)
		}
	})
}

func TestTextsOfEdges(t *testing.T) {
	for text, a := range map[string]impl.Aig{
		"aag 0 0 0 0 0 0\n":                              {},
		"aag 0 0 0 0 0 2\n0\n1\n":                        {Bads: []int{0, 1}},
		"aag 2 2 0 0 0 0\n2\n4\n":                        {Inputs: 2},
		"aag 2 0 2 0 0 0\n2 5 1\n4 0 0\n":                {Latches: []impl.Latch{{Next: 5, Init: true}, {Next: 0}}},
		"aag 2 0 0 0 2 0\n2 0 1\n4 3 2\n":                {Ands: []impl.And{{A: 0, B: 1}, {A: 3, B: 2}}},
		"aag 3 1 1 0 1 1\n2\n4 6 1\n7\n6 4 2\n":          {Inputs: 1, Latches: []impl.Latch{{Next: 6, Init: true}}, Ands: []impl.And{{A: 4, B: 2}}, Bads: []int{7}},
		"aag 1 0 0 0 1 4\n3\n3\n2\n0\n2 1 1\n":           {Ands: []impl.And{{A: 1, B: 1}}, Bads: []int{3, 3, 2, 0}},
		"aag 2 1 1 0 0 0\n2\n4 1 0\n":                    {Inputs: 1, Latches: []impl.Latch{{Next: 1}}},
		"aag 3 1 0 0 2 1\n2\n5\n4 2 2\n6 5 3\n":          {Inputs: 1, Ands: []impl.And{{A: 2, B: 2}, {A: 5, B: 3}}, Bads: []int{5}},
		putByHand(full()):                                full(),
		"aag 3 2 0 0 1 2\n2\n4\n6\n7\n6 4 4\n":           {Inputs: 2, Ands: []impl.And{{A: 4, B: 4}}, Bads: []int{6, 7}},
		"aag 5 2 1 0 2 0\n2\n4\n6 10 1\n8 2 5\n10 8 7\n": {Inputs: 2, Latches: []impl.Latch{{Next: 10, Init: true}}, Ands: []impl.And{{A: 2, B: 5}, {A: 8, B: 7}}},
	} {
		if put := impl.AigPut(a); put != text {
			t.Errorf("%v: %q, want %q", a, put, text)
		}
		got, ok := impl.AigGet(text)
		if !ok || !sameAig(got, a) {
			t.Errorf("%q: %v %v, want %v", text, got, ok, a)
		}
	}
}

func wantNoText(t *testing.T, text string) {
	t.Helper()
	if got, ok := impl.AigGet(text); ok || !isNoAig(got) {
		t.Errorf("%q is read as %v %v", text, got, ok)
	}
}

func TestTextsOfNoCircuit(t *testing.T) {
	good := "aag 3 1 1 0 1 1\n2\n4 6 1\n7\n6 4 2\n"
	if _, ok := impl.AigGet(good); !ok {
		t.Fatal(good)
	}
	for i := range good {
		wantNoText(t, good[:i])
		wantNoText(t, good[i+1:])
		for _, more := range []string{" ", "\n", "\t", "\r", "0", "-", "+", "\x00", "\u00a0", "é"} {
			wantNoText(t, good[:i]+more+good[i:])
		}
	}
	for _, more := range []string{" ", "\n", "0", "0\n", "c\n", "i0 x\n", "8 2 2\n", good} {
		wantNoText(t, good+more)
	}
	for _, text := range []string{
		"", "\n", " ", "aag", "aag ", "aag\n", "aag 0\n", "aag 0 0 0 0 0\n", "aag 0 0 0 0 0 0", "aag 0 0 0 0 0 0 0\n", " aag 0 0 0 0 0 0\n",
		"0 0 0 0 0 0\n", "aig 0 0 0 0 0 0\n", "AAG 0 0 0 0 0 0\n", "aag aag 0 0 0 0 0 0\n", "p cnf 0 0\n",
		"aag 0 0 0 1 0 0\n", "aag 1 0 0 1 0 0\n0\n", "aag 1 0 0 0 0 0\n", "aag 0 1 0 0 0 0\n2\n", "aag 1 1 0 0 0 0\n", "aag 1 1 0 0 0 0\n4\n", "aag 1 1 0 0 0 0\n3\n", "aag 1 1 0 0 0 0\n0\n", "aag 2 2 0 0 0 0\n4\n2\n",
		"aag 1 0 1 0 0 0\n2 2\n", "aag 1 0 1 0 0 0\n2 2 2\n", "aag 1 0 1 0 0 0\n2 2 -1\n", "aag 1 0 1 0 0 0\n4 2 0\n", "aag 1 0 1 0 0 0\n2 4 0\n", "aag 1 0 1 0 0 0\n2 2 0 0\n", "aag 1 0 1 0 0 0\n3 2 0\n",
		"aag 1 0 0 0 1 0\n2 2 0\n", "aag 1 0 0 0 1 0\n2 0 3\n", "aag 1 0 0 0 1 0\n2 0\n", "aag 1 0 0 0 1 0\n0 0 0\n", "aag 1 0 0 0 1 0\n3 0 0\n", "aag 2 0 0 0 2 0\n4 0 0\n2 0 0\n", "aag 2 0 0 0 2 0\n2 4 0\n4 0 0\n", "aag 1 0 0 0 1 0\n2 -1 0\n",
		"aag 0 0 0 0 0 1\n2\n", "aag 0 0 0 0 0 1\n-1\n", "aag 0 0 0 0 0 1\n\n", "aag 0 0 0 0 0 1\n00\n", "aag 0 0 0 0 0 1\n+1\n", "aag 0 0 0 0 0 1\n-0\n", "aag 0 0 0 0 0 1\n0 \n", "aag 0 0 0 0 0 1\n 0\n", "aag 0 0 0 0 0 1\r\n0\r\n", "aag 0 0 0 0 0 1\nx\n",
		"aag 0 -1 0 0 1 0\n0 0 0\n", "aag -1 -1 0 0 0 0\n", "aag 0 0 -1 0 0 0\n", "aag 0 0 0 0 -1 0\n", "aag 0 0 0 0 0 -1\n", "aag 00 0 0 0 0 0\n",
		"aag 99999 99999 0 0 0 0\n2\n", "aag 99999 0 0 0 99999 0\n", "aag 99999 0 99999 0 0 0\n", "aag 0 0 0 0 0 99999\n0\n", "aag 9223372036854775807 9223372036854775807 0 0 0 0\n", "aag 18446744073709551616 0 0 0 0 0\n", "aag 0 0 0 0 0 18446744073709551616\n",
		"aag 0 0 0\n0 0 0\n", "aag 1 1 0 0 0 0 2\n", "aag 1 1 0 0 0 0\n\n2\n", "\naag 0 0 0 0 0 0\n", "\xff\xfe",
	} {
		wantNoText(t, text)
	}
	for _, a := range wrongAigs() {
		if a.Inputs >= 0 && a.Inputs <= impl.InputMax+1 {
			wantNoText(t, putByHand(a))
		}
	}
}

// A circuit's text is far shorter than TextMax: what is longer can only be filled up.
func TestLongTextsOfNoCircuit(t *testing.T) {
	for _, head := range []string{putByHand(full()), "aag 0 0 0 0 0 0\n", "aag 0 0 0 0 0 1\n", "aag ", ""} {
		for _, fill := range []string{" ", "\n", "0", "0\n0", "1 "} {
			for _, size := range []int{impl.TextMax - 1, impl.TextMax, impl.TextMax + 1, 20 * impl.TextMax} {
				wantNoText(t, (head + strings.Repeat(fill, size))[:size])
			}
		}
	}
	huge := strings.Repeat("0\n", impl.TextMax/2)
	wantNoText(t, "aag 0 0 0 0 0 99999\n"+huge[:impl.TextMax-len("aag 0 0 0 0 0 99999\n")])
}

// P18: what is read is written again, byte by byte.
func TestWhatIsReadIsWritten(t *testing.T) {
	signs := "0123456789 \n-a"
	read := 0
	eachCircuit(33, func(r *rand.Rand, a impl.Aig) {
		text := []byte(putByHand(a))
		for range 1 + r.IntN(2) {
			at := r.IntN(len(text))
			switch r.IntN(3) {
			case 0:
				text[at] = signs[r.IntN(len(signs))]
			case 1:
				text = slices.Insert(text, at, signs[r.IntN(len(signs))])
			default:
				text = slices.Delete(text, at, at+1)
			}
		}
		got, ok := impl.AigGet(string(text))
		want, fine := getByHand(string(text))
		if ok != fine || !sameAig(got, want) {
			t.Fatalf("%q is read as %v %v, want %v %v", text, got, ok, want, fine)
		}
		if ok {
			read++
			if put := impl.AigPut(got); put != string(text) {
				t.Fatalf("%q is read, and written as %q", text, put)
			}
		}
	})
	if read == 0 {
		t.Error("no text was drawn that is a circuit's")
	}
}

// P19
func TestClausesLeaveTheValues(t *testing.T) {
	eachCircuit(34, func(r *rand.Rand, a impl.Aig) {
		c := impl.AigCnf(a)
		if want := cnfByHand(a); !sameCnf(c, want) {
			t.Fatalf("%v: %v, want %v", a, c, want)
		}
		if !impl.CnfOk(c) || c.Vars != nodeCount(a)-1 {
			t.Fatalf("%v: %v", a, c)
		}
		all := drawBools(r, a.Inputs+len(a.Latches))
		told := []int{}
		for i, so := range all {
			told = append(told, (1+i)*map[bool]int{true: 1, false: -1}[so])
		}
		values := valuesByHand(a, all[a.Inputs:], all[:a.Inputs])
		way, ok := impl.Solve(c, told)
		if !ok || !slices.Equal(way, values[1:]) {
			t.Fatalf("%v %v: %v %v, want %v", a, told, way, ok, values[1:])
		}
		for _, l := range told {
			c.Clauses = append(c.Clauses, []int{l})
		}
		if c.Vars <= impl.CountMax && impl.Count(c) != 1 {
			t.Fatalf("%v %v: %d ways", a, told, impl.Count(c))
		}
		if bone, ok := impl.Backbone(c); !ok || len(bone) != c.Vars {
			t.Fatalf("%v %v: %v is all that is sure", a, told, bone)
		}
	})
}

func TestClausesOfEdges(t *testing.T) {
	for _, c := range []struct {
		what string
		and  impl.And
		want [][]int
	}{
		{"both", impl.And{A: 2, B: 4}, [][]int{{-3, 1}, {-3, 2}, {3, -1, -2}}},
		{"the greater first", impl.And{A: 4, B: 2}, [][]int{{-3, 2}, {-3, 1}, {3, -2, -1}}},
		{"opposites of both", impl.And{A: 3, B: 5}, [][]int{{-3, -1}, {-3, -2}, {3, 1, 2}}},
		{"never first", impl.And{A: 0, B: 4}, [][]int{{-3}, {-3, 2}}},
		{"never second", impl.And{A: 5, B: 0}, [][]int{{-3, -2}, {-3}}},
		{"always first", impl.And{A: 1, B: 4}, [][]int{{-3, 2}, {3, -2}}},
		{"always second", impl.And{A: 5, B: 1}, [][]int{{-3, -2}, {3, 2}}},
		{"never and always", impl.And{A: 0, B: 1}, [][]int{{-3}}},
		{"always and never", impl.And{A: 1, B: 0}, [][]int{{-3}}},
		{"never twice", impl.And{A: 0, B: 0}, [][]int{{-3}, {-3}}},
		{"always twice", impl.And{A: 1, B: 1}, [][]int{{3}}},
		{"it twice", impl.And{A: 2, B: 2}, [][]int{{-3, 1}, {-3, 1}, {3, -1, -1}}},
		{"it and its opposite", impl.And{A: 2, B: 3}, [][]int{{-3, 1}, {-3, -1}, {3, -1, 1}}},
	} {
		got := impl.AigCnf(impl.Aig{Inputs: 2, Ands: []impl.And{c.and}, Bads: []int{6, 1}})
		if want := (impl.Cnf{Vars: 3, Clauses: c.want}); !sameCnf(got, want) {
			t.Errorf("%s: %v, want %v", c.what, got, want)
		}
	}
	if got := impl.AigCnf(impl.Aig{Bads: []int{1}}); !isNothing(got) {
		t.Errorf("no nodes: %v", got)
	}
	if got := impl.AigCnf(impl.Aig{Inputs: 2, Latches: []impl.Latch{{Next: 1, Init: true}}}); !sameCnf(got, impl.Cnf{Vars: 3}) {
		t.Errorf("no ands: %v", got)
	}
	most := impl.Aig{Inputs: impl.InputMax, Latches: make([]impl.Latch, impl.LatchMax), Ands: manyAnds(impl.AndMax)}
	if got := impl.AigCnf(most); got.Vars != 56 || len(got.Clauses) != 120 || !impl.CnfOk(got) {
		t.Errorf("all that may be: %d variables, %d clauses", got.Vars, len(got.Clauses))
	}
}

// P20
func TestWhatCanBeIs(t *testing.T) {
	met := map[bool]int{}
	r := drawer(35)
	check := func(a impl.Aig, m int) {
		got, ok := impl.AigCan(a, m)
		met[ok]++
		want, fine := canByHand(a, m)
		if ok != fine || !slices.Equal(got, want) {
			t.Fatalf("%v: %d can be with %v %v, want %v %v", a, m, got, ok, want, fine)
		}
		if ok && valuesByHand(a, got[a.Inputs:], got[:a.Inputs])[m/2] != (m%2 == 0) {
			t.Fatalf("%v: %d is not with %v", a, m, got)
		}
	}
	eachCircuit(36, func(r *rand.Rand, a impl.Aig) {
		check(a, drawMeaning(r, nodeCount(a)))
	})
	for range 60 {
		a := drawAig(r, r.IntN(4), r.IntN(4), r.IntN(12), 0)
		for m := range 2 * nodeCount(a) {
			check(a, m)
		}
	}
	if met[true] == 0 || met[false] == 0 {
		t.Error("all drawn can be, or none")
	}
}

func TestWhatCanBeOfEdges(t *testing.T) {
	a := impl.Aig{Inputs: 1, Latches: []impl.Latch{{Next: 1, Init: true}, {Next: 0}}, Ands: []impl.And{{A: 2, B: 3}, {A: 3, B: 6}, {A: 1, B: 1}, {A: 5, B: 11}}, Bads: []int{8}}
	no, yes := false, true
	for _, c := range []struct {
		what string
		m    int
		want []bool
		fine bool
	}{
		{"never", 0, nil, false},
		{"always", 1, []bool{no, no, no}, true},
		{"an input", 2, []bool{yes, no, no}, true},
		{"an input's opposite", 3, []bool{no, no, no}, true},
		{"a latch, whatever its Init", 6, []bool{no, no, yes}, true},
		{"a latch's opposite, whatever its Next", 5, []bool{no, no, no}, true},
		{"it and its opposite", 8, nil, false},
		{"not both it and its opposite", 9, []bool{no, no, no}, true},
		{"an and", 10, []bool{no, no, yes}, true},
		{"an and's opposite", 11, []bool{no, no, no}, true},
		{"always twice", 12, []bool{no, no, no}, true},
		{"not always twice", 13, nil, false},
		{"an and of ands", 14, []bool{no, no, no}, true},
		{"its opposite", 15, []bool{no, no, yes}, true},
		{"past all", 16, nil, false},
		{"past all, opposite", 17, nil, false},
		{"below 0", -1, nil, false},
		{"an input below 0", -2, nil, false},
		{"the least number", -1 << 63, nil, false},
		{"the greatest number", 1<<63 - 1, nil, false},
	} {
		got, ok := impl.AigCan(a, c.m)
		wantModel(t, c.what, got, ok, c.want, c.fine)
	}
	got, ok := impl.AigCan(impl.Aig{}, 1)
	wantModel(t, "always, of nothing", got, ok, nil, true)
	got, ok = impl.AigCan(impl.Aig{}, 0)
	wantModel(t, "never, of nothing", got, ok, nil, false)
	got, ok = impl.AigCan(impl.Aig{Ands: []impl.And{{A: 0, B: 1}}}, 3)
	wantModel(t, "no inputs, no latches", got, ok, nil, true)
}

// onlyIf is a circuit in which something is only if all inputs and latches are as they are told.
func onlyIf(so []bool) impl.Aig {
	a := impl.Aig{Inputs: impl.InputMax, Latches: make([]impl.Latch, impl.LatchMax)}
	m := 1
	for i, is := range so {
		one := 2 * (1 + i)
		if !is {
			one++
		}
		a.Ands = append(a.Ands, impl.And{A: one, B: m})
		m = 2 * (len(so) + len(a.Ands))
	}
	return a
}

func TestOneOfAllCanBe(t *testing.T) {
	r := drawer(37)
	for range 20 {
		so := drawBools(r, impl.InputMax+impl.LatchMax)
		a := onlyIf(so)
		last := 2 * (nodeCount(a) - 1)
		got, ok := impl.AigCan(a, last)
		wantModel(t, "one of all", got, ok, so, true)
	}
}
