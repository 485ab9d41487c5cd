package tests

import (
	"fmt"
	"math/rand/v2"
	"slices"
	"testing"

	"loop.example/registrar/impl"
)

// counting counts two truths through 00, 10, 01, 11 while its input is, and finds 11 bad.
func counting() impl.Aig {
	return impl.Aig{
		Inputs:  1,
		Latches: []impl.Latch{{Next: 12}, {Next: 18}},
		Ands: []impl.And{
			{A: 2, B: 4},   // 4: both the input and the first
			{A: 3, B: 5},   // 5: neither
			{A: 9, B: 11},  // 6: just one: the first, turned if the input is
			{A: 8, B: 6},   // 7: both node 4 and the second
			{A: 9, B: 7},   // 8: neither
			{A: 15, B: 17}, // 9: just one: the second, turned if node 4 is
			{A: 4, B: 6},   // 10: both the first and the second
		},
		Bads: []int{20},
	}
}

func TestCircuitsThatAreOk(t *testing.T) {
	fine := map[string]impl.Aig{
		"nothing":             {},
		"only node 0":         {Bads: []int{0, 1}},
		"all inputs":          {Inputs: impl.InputMax, Bads: []int{2 * impl.InputMax, 2*impl.InputMax + 1}},
		"all latches":         {Latches: make([]impl.Latch, impl.LatchMax)},
		"all ands":            {Inputs: 2, Ands: manyAnds(impl.AndMax)},
		"all bads":            {Bads: make([]int, impl.BadMax)},
		"ands of 0 and 1":     {Ands: []impl.And{{A: 0, B: 1}, {A: 1, B: 1}}},
		"the node ahead":      {Inputs: 1, Ands: []impl.And{{A: 3, B: 2}, {A: 4, B: 5}, {A: 7, B: 6}}},
		"last node, opposite": {Inputs: 1, Latches: []impl.Latch{{Next: 7}}, Ands: []impl.And{{A: 5, B: 4}}, Bads: []int{7, 6}},
		"a latch's own":       {Latches: []impl.Latch{{Next: 3}}},
		"a later latch":       {Latches: []impl.Latch{{Next: 5}, {Next: 2}}},
	}
	for what, a := range fine {
		if !impl.AigOk(a) {
			t.Errorf("%s: not ok", what)
		}
	}
	for what, a := range wrongAigs() {
		if impl.AigOk(a) {
			t.Errorf("%s: ok", what)
		}
	}
	eachCircuit(21, func(r *rand.Rand, a impl.Aig) {
		if !impl.AigOk(a) {
			t.Fatalf("%v: not ok", a)
		}
	})
}

// What is asked of a circuit that is not ok is answered by nothing, by every function.
func TestWrongCircuits(t *testing.T) {
	for what, a := range wrongAigs() {
		inputs := make([]bool, max(0, min(a.Inputs, impl.InputMax+1)))
		latches := make([]bool, len(a.Latches))
		wantBools(t, what+": AigValues", impl.AigValues(a, latches, inputs), nil)
		next, bads := impl.AigStep(a, latches, inputs)
		wantBools(t, what+": AigStep", next, nil)
		wantBools(t, what+": AigStep, bads", bads, nil)
		for _, rows := range [][][]bool{nil, {inputs}, {inputs, inputs}} {
			if n := impl.AigRun(a, rows); n != -1 {
				t.Errorf("%s: AigRun %d", what, n)
			}
		}
		wantAig(t, what+": AigLess", impl.AigLess(a), impl.Aig{})
		for _, m := range []int{0, 1, 2, 3} {
			wantInts(t, what+": AigNeeds", impl.AigNeeds(a, m), true, nil, true)
			can, ok := impl.AigCan(a, m)
			wantModel(t, what+": AigCan", can, ok, nil, false)
		}
		if text := impl.AigPut(a); text != "" {
			t.Errorf("%s: AigPut %q", what, text)
		}
		if c := impl.AigCnf(a); !isNothing(c) {
			t.Errorf("%s: AigCnf %v", what, c)
		}
	}
}

// P12
func TestEachAndIsBoth(t *testing.T) {
	eachCircuit(22, func(r *rand.Rand, a impl.Aig) {
		latches, inputs := drawBools(r, len(a.Latches)), drawBools(r, a.Inputs)
		values := impl.AigValues(a, latches, inputs)
		if want := valuesByHand(a, latches, inputs); !slices.Equal(values, want) {
			t.Fatalf("%v %v %v: %v, want %v", a, latches, inputs, values, want)
		}
		if values[0] || !slices.Equal(values[1:1+a.Inputs+len(a.Latches)], slices.Concat(inputs, latches)) {
			t.Fatalf("%v %v %v: begins with %v", a, latches, inputs, values)
		}
		for i, and := range a.Ands {
			both := values[and.A/2] != (and.A%2 == 1) && values[and.B/2] != (and.B%2 == 1)
			if values[nodeCount(a)-len(a.Ands)+i] != both {
				t.Fatalf("%v %v %v: %v at and %d", a, latches, inputs, values, i)
			}
		}
	})
}

func TestValuesOfEdges(t *testing.T) {
	wantBools(t, "nothing", impl.AigValues(impl.Aig{}, nil, nil), []bool{false})
	wantBools(t, "nothing, empty lists", impl.AigValues(impl.Aig{}, []bool{}, []bool{}), []bool{false})
	wantBools(t, "an input", impl.AigValues(impl.Aig{Inputs: 1}, nil, []bool{true}), []bool{false, true})
	wantBools(t, "a latch, not its Init", impl.AigValues(impl.Aig{Latches: []impl.Latch{{Next: 1}}}, []bool{true}, nil), []bool{false, true})
	wantBools(t, "inputs are ahead of latches", impl.AigValues(impl.Aig{Inputs: 1, Latches: []impl.Latch{{}, {}}}, []bool{false, true}, []bool{true}), []bool{false, true, false, true})
	ands := impl.Aig{Inputs: 1, Ands: []impl.And{{A: 2, B: 3}, {A: 2, B: 2}, {A: 3, B: 3}, {A: 0, B: 2}, {A: 2, B: 1}, {A: 1, B: 1}, {A: 0, B: 0}, {A: 0, B: 1}}}
	wantBools(t, "ands of what is", impl.AigValues(ands, nil, []bool{true}), []bool{false, true, false, true, false, false, true, true, false, false})
	wantBools(t, "ands of what is not", impl.AigValues(ands, nil, []bool{false}), []bool{false, false, false, false, true, false, false, true, false, false})
}

// fewOrMany is lists of truths that are not so many.
func fewOrMany(many int) [][]bool {
	lists := [][]bool{make([]bool, many+1), make([]bool, many+9)}
	if many > 0 {
		lists = append(lists, nil, make([]bool, many-1))
	}
	return lists
}

// wantNoStep says that values and steps are nothing.
func wantNoStep(t *testing.T, a impl.Aig, latches []bool, inputs []bool) {
	t.Helper()
	what := fmt.Sprintf("%v with %d latches and %d inputs", a, len(latches), len(inputs))
	wantBools(t, what, impl.AigValues(a, latches, inputs), nil)
	next, bads := impl.AigStep(a, latches, inputs)
	wantBools(t, what+", next", next, nil)
	wantBools(t, what+", bads", bads, nil)
}

func TestTooFewOrTooMany(t *testing.T) {
	r := drawer(23)
	for i := range 25 {
		a := drawAig(r, i%5, i/5, 4, 3)
		for _, inputs := range fewOrMany(a.Inputs) {
			wantNoStep(t, a, make([]bool, len(a.Latches)), inputs)
		}
		for _, latches := range fewOrMany(len(a.Latches)) {
			wantNoStep(t, a, latches, make([]bool, a.Inputs))
		}
		// as many together, but not of each
		wantNoStep(t, a, make([]bool, len(a.Latches)+1), make([]bool, max(0, a.Inputs-1)))
		if a.Inputs != len(a.Latches) {
			wantNoStep(t, a, make([]bool, a.Inputs), make([]bool, len(a.Latches)))
		}
	}
}

// P13
func TestStepsAreAsNodesSay(t *testing.T) {
	eachCircuit(24, func(r *rand.Rand, a impl.Aig) {
		latches, inputs := drawBools(r, len(a.Latches)), drawBools(r, a.Inputs)
		next, bads := impl.AigStep(a, latches, inputs)
		wantNext, wantBads := stepByHand(a, latches, inputs)
		if !slices.Equal(next, wantNext) || !slices.Equal(bads, wantBads) {
			t.Fatalf("%v %v %v: %v %v, want %v %v", a, latches, inputs, next, bads, wantNext, wantBads)
		}
	})
}

func TestStepsOfEdges(t *testing.T) {
	a := impl.Aig{Inputs: 1, Latches: []impl.Latch{{Next: 0}, {Next: 1}, {Next: 2}, {Next: 3}, {Next: 4}, {Next: 11}}, Bads: []int{1, 0, 3, 15}}
	next, bads := impl.AigStep(a, []bool{true, false, false, false, false, true}, []bool{true})
	wantBools(t, "next", next, []bool{false, true, true, false, true, true})
	wantBools(t, "bads", bads, []bool{true, false, false, false})
	next, bads = impl.AigStep(impl.Aig{Inputs: 1, Latches: []impl.Latch{{Next: 3}}}, []bool{true}, []bool{false})
	wantBools(t, "no Bads: next", next, []bool{true})
	wantBools(t, "no Bads", bads, nil)
	next, bads = impl.AigStep(impl.Aig{Bads: []int{1}}, nil, nil)
	wantBools(t, "no latches", next, nil)
	wantBools(t, "no latches: bads", bads, []bool{true})
}

// P14
func TestRunsAreStepBehindStep(t *testing.T) {
	met := map[int]int{}
	eachCircuit(25, func(r *rand.Rand, a impl.Aig) {
		rows := drawRows(r, r.IntN(8), a.Inputs)
		if len(rows) > 0 && r.IntN(4) == 0 {
			// one that has not as many, somewhere
			rows[r.IntN(len(rows))] = make([]bool, a.Inputs+1)
		}
		n := impl.AigRun(a, rows)
		met[n]++
		if want := runByHand(a, rows); n != want {
			t.Fatalf("%v %v: %d, want %d", a, rows, n, want)
		}
	})
	for n := -1; n < 4; n++ {
		if met[n] == 0 {
			t.Errorf("no circuit was drawn that runs to %d", n)
		}
	}
}

func TestRunsOfEdges(t *testing.T) {
	yes, no := []bool{true}, []bool{false}
	wire := impl.Aig{Inputs: 1, Bads: []int{0, 2}}
	quiet := func(rows int) [][]bool { return slices.Repeat([][]bool{no}, rows) }
	chain := impl.Aig{Latches: []impl.Latch{{Next: 1}}, Bads: []int{2 * impl.LatchMax}}
	for i := 1; i < impl.LatchMax; i++ {
		chain.Latches = append(chain.Latches, impl.Latch{Next: 2 * i})
	}
	for _, c := range []struct {
		what string
		a    impl.Aig
		rows [][]bool
		want int
	}{
		{"the first step", wire, [][]bool{yes, no}, 0},
		{"the first of two", wire, [][]bool{no, yes, yes}, 1},
		{"none", wire, quiet(5), -1},
		{"no rows", wire, nil, -1},
		{"no rows, always bad", impl.Aig{Bads: []int{1}}, nil, -1},
		{"always bad", impl.Aig{Bads: []int{1}}, [][]bool{nil}, 0},
		{"never bad", impl.Aig{Bads: []int{0}}, [][]bool{nil, {}}, -1},
		{"no Bads", impl.Aig{Inputs: 1}, [][]bool{yes}, -1},
		{"the last of StepMax", wire, append(quiet(impl.StepMax-1), yes), impl.StepMax - 1},
		{"none of StepMax", wire, quiet(impl.StepMax), -1},
		{"behind StepMax", wire, append(quiet(impl.StepMax), yes), -1},
		{"too many, the first bad", wire, append([][]bool{yes}, quiet(impl.StepMax)...), -1},
		{"too few inputs ahead", wire, [][]bool{no, {}, yes}, -1},
		{"too many inputs ahead", wire, [][]bool{{false, false}, yes}, -1},
		{"too few inputs behind", wire, [][]bool{no, yes, nil}, 1},
		{"too many inputs behind", wire, [][]bool{yes, {true, true}}, 0},
		{"too many inputs, bad itself", wire, [][]bool{no, {true, true}}, -1},
		{"inputs of none", impl.Aig{Bads: []int{1}}, [][]bool{no}, -1},
		{"Init is bad", impl.Aig{Latches: []impl.Latch{{Next: 0, Init: true}}, Bads: []int{2}}, [][]bool{nil}, 0},
		{"Next is bad", impl.Aig{Latches: []impl.Latch{{Next: 1}}, Bads: []int{2}}, [][]bool{nil, nil}, 1},
		{"only Next would be bad", impl.Aig{Latches: []impl.Latch{{Next: 1}}, Bads: []int{2}}, [][]bool{nil}, -1},
		{"latch by latch", chain, slices.Repeat([][]bool{nil}, 20), impl.LatchMax},
		{"counted", counting(), [][]bool{yes, no, yes, no, no, yes, no, yes}, 6},
		{"not counted so far", counting(), [][]bool{yes, yes, yes}, -1},
	} {
		if n := impl.AigRun(c.a, c.rows); n != c.want {
			t.Errorf("%s: %d, want %d", c.what, n, c.want)
		}
	}
}

// P15
func TestLessDoesTheSame(t *testing.T) {
	shorter := 0
	eachCircuit(26, func(r *rand.Rand, a impl.Aig) {
		less := impl.AigLess(a)
		if want := lessWordByWord(a); !sameAig(less, want) {
			t.Fatalf("%v: %v, want %v", a, less, want)
		}
		if !impl.AigOk(less) || !sameAig(impl.AigLess(less), less) {
			t.Fatalf("%v: %v, and again %v", a, less, impl.AigLess(less))
		}
		met := map[impl.And]int{}
		for _, and := range less.Ands {
			met[and]++
			if and.A < 2 || and.A >= and.B || and.A/2 == and.B/2 || met[and] > 1 {
				t.Fatalf("%v: %v has %v", a, less, and)
			}
		}
		if len(less.Ands) < len(a.Ands) {
			shorter++
		}
		rows := drawRows(r, 6, a.Inputs)
		if n, want := impl.AigRun(less, rows), runByHand(a, rows); n != want {
			t.Fatalf("%v: %v runs to %d, want %d", a, less, n, want)
		}
	})
	if shorter == 0 {
		t.Error("no circuit was drawn that has something needless")
	}
}

// P16
func TestLessKeepsTheSame(t *testing.T) {
	eachCircuit(27, func(r *rand.Rand, a impl.Aig) {
		less := impl.AigLess(a)
		for range 4 {
			latches, inputs := drawBools(r, len(a.Latches)), drawBools(r, a.Inputs)
			next, bads := impl.AigStep(less, latches, inputs)
			wantNext, wantBads := stepByHand(a, latches, inputs)
			if !slices.Equal(next, wantNext) || !slices.Equal(bads, wantBads) {
				t.Fatalf("%v %v %v: %v does %v %v, want %v %v", a, latches, inputs, less, next, bads, wantNext, wantBads)
			}
		}
		for i, latch := range less.Latches {
			if latch.Init != a.Latches[i].Init {
				t.Fatalf("%v: %v begins otherwise", a, less)
			}
		}
	})
}

func TestLessOfEdges(t *testing.T) {
	type ands = [][2]int
	type bads = []int
	// two inputs: the first and is node 3, which 6 means
	for _, c := range []struct {
		what  string
		ands  ands
		bads  bads
		left  ands
		ended bads
	}{
		{"with 0", ands{{0, 2}, {2, 0}}, bads{6, 8, 7, 9}, nil, bads{0, 0, 1, 1}},
		{"with 1", ands{{1, 4}, {5, 1}}, bads{6, 7, 8, 9}, nil, bads{4, 5, 5, 4}},
		{"of 0 and 1", ands{{0, 1}, {1, 0}, {0, 0}, {1, 1}}, bads{6, 8, 10, 12}, nil, bads{0, 0, 0, 1}},
		{"of it and its opposite", ands{{2, 3}, {5, 4}}, bads{6, 8, 9}, nil, bads{0, 0, 1}},
		{"of it twice", ands{{2, 2}, {3, 3}}, bads{6, 8, 9}, nil, bads{2, 3, 2}},
		{"the lesser first", ands{{4, 2}, {6, 3}}, bads{8}, ands{{2, 4}, {3, 6}}, bads{8}},
		{"the same twice", ands{{2, 4}, {2, 4}}, bads{6, 8, 9}, ands{{2, 4}}, bads{6, 6, 7}},
		{"the same turned", ands{{5, 2}, {2, 5}}, bads{8, 6}, ands{{2, 5}}, bads{6, 6}},
		{"opposites are not the same", ands{{2, 4}, {3, 4}, {2, 5}, {3, 5}}, bads{6, 8, 10, 12}, ands{{2, 4}, {3, 4}, {2, 5}, {3, 5}}, bads{6, 8, 10, 12}},
		{"the same by what became", ands{{2, 1}, {6, 4}, {2, 4}}, bads{8, 10}, ands{{2, 4}}, bads{6, 6}},
		{"the same by what became, opposite", ands{{3, 3}, {7, 4}, {4, 2}}, bads{8, 10}, ands{{2, 4}}, bads{6, 6}},
		{"opposites by what became", ands{{2, 2}, {6, 3}}, bads{8, 9}, nil, bads{0, 1}},
		{"opposites, as two are the same", ands{{2, 4}, {4, 2}, {6, 9}}, bads{10}, nil, bads{0}},
		{"twice, as two are the same", ands{{2, 4}, {4, 2}, {7, 9}}, bads{10}, ands{{2, 4}}, bads{7}},
		{"the lesser by what became", ands{{2, 1}, {4, 6}}, bads{8}, ands{{2, 4}}, bads{6}},
		{"0 goes on", ands{{2, 3}, {4, 6}, {7, 5}}, bads{8, 10}, nil, bads{0, 5}},
		{"1 goes on", ands{{0, 2}, {7, 7}, {8, 4}, {9, 4}}, bads{8, 10, 12}, nil, bads{1, 4, 0}},
		{"needed by nothing", ands{{2, 4}, {3, 4}, {2, 5}}, bads{8}, ands{{3, 4}}, bads{6}},
		{"needed only by what is not needed", ands{{2, 4}, {6, 3}, {3, 5}}, bads{11}, ands{{3, 5}}, bads{7}},
		{"needed by what is needed", ands{{2, 4}, {2, 5}, {3, 7}}, bads{10}, ands{{2, 4}, {3, 7}}, bads{8}},
		{"needed no more, as it is 0", ands{{2, 4}, {6, 0}, {3, 4}}, bads{8, 10}, ands{{3, 4}}, bads{0, 6}},
		{"all after count less", ands{{2, 4}, {3, 4}, {3, 5}, {8, 11}, {12, 2}}, bads{12, 15}, ands{{3, 4}, {3, 5}, {6, 9}, {2, 10}}, bads{10, 13}},
		{"no ands", nil, bads{5, 0, 1, 2}, nil, bads{5, 0, 1, 2}},
		{"no Bads", ands{{2, 4}, {6, 3}}, nil, nil, nil},
		{"one bad twice", ands{{2, 4}}, bads{6, 6}, ands{{2, 4}}, bads{6, 6}},
	} {
		got := impl.AigLess(impl.Aig{Inputs: 2, Ands: pairs(c.ands), Bads: c.bads})
		wantAig(t, c.what, got, impl.Aig{Inputs: 2, Ands: pairs(c.left), Bads: c.ended})
		// the same of two latches: what is bad is what comes next
		latched := impl.Aig{Latches: make([]impl.Latch, 2), Ands: pairs(c.ands)}
		want := impl.Aig{Latches: make([]impl.Latch, 2), Ands: pairs(c.left)}
		for i := range min(2, len(c.bads)) {
			latched.Latches[i].Next, want.Latches[i].Next = c.bads[i], c.ended[i]
		}
		if len(c.bads) > 2 {
			latched.Bads, want.Bads = c.bads[2:], c.ended[2:]
		}
		wantAig(t, c.what+", of latches", impl.AigLess(latched), want)
	}
}

func TestLessKeepsWhatANextNeeds(t *testing.T) {
	a := impl.Aig{Inputs: 1, Latches: []impl.Latch{{Next: 13}, {Next: 1, Init: true}, {Next: 0}}, Ands: []impl.And{{A: 2, B: 6}, {A: 6, B: 4}, {A: 12, B: 3}}}
	wantAig(t, "one that only a Next needs", impl.AigLess(a), impl.Aig{Inputs: 1, Latches: []impl.Latch{{Next: 11}, {Next: 1, Init: true}, {Next: 0}}, Ands: []impl.And{{A: 4, B: 6}}})
	wantAig(t, "nothing", impl.AigLess(impl.Aig{}), impl.Aig{})
	full := impl.Aig{Inputs: 2, Ands: manyAnds(impl.AndMax), Bads: []int{4 + 2*impl.AndMax}}
	wantAig(t, "all alike", impl.AigLess(full), impl.Aig{Inputs: 2, Ands: manyAnds(1), Bads: []int{6}})
	long := impl.Aig{Inputs: impl.InputMax, Latches: make([]impl.Latch, impl.LatchMax), Bads: []int{0, 1, 2, 2*(impl.InputMax+impl.LatchMax+impl.AndMax) + 1}}
	for i := range impl.AndMax {
		long.Ands = append(long.Ands, impl.And{A: 2 + i%2, B: 2 * (impl.InputMax + impl.LatchMax + i)})
	}
	wantAig(t, "one behind the other", impl.AigLess(long), long)
}

// P17
func TestWhatIsNeededDecides(t *testing.T) {
	eachCircuit(28, func(r *rand.Rand, a impl.Aig) {
		m := drawMeaning(r, nodeCount(a))
		needs := impl.AigNeeds(a, m)
		if want := needsByHand(a, m); !same(needs, want) {
			t.Fatalf("%v: %d needs %v, want %v", a, m, needs, want)
		}
		if !same(needs, impl.AigNeeds(a, m^1)) {
			t.Fatalf("%v: the opposite of %d needs %v", a, m, impl.AigNeeds(a, m^1))
		}
		all := drawBools(r, a.Inputs+len(a.Latches))
		before := impl.AigValues(a, all[a.Inputs:], all[:a.Inputs])
		for i := range all {
			if !slices.Contains(needs, 1+i) {
				all[i] = r.IntN(2) == 0
			}
		}
		after := impl.AigValues(a, all[a.Inputs:], all[:a.Inputs])
		if before[m/2] != after[m/2] {
			t.Fatalf("%v: %d needs more than %v", a, m, needs)
		}
	})
}

func TestNeedsOfEdges(t *testing.T) {
	a := impl.Aig{Inputs: 2, Latches: []impl.Latch{{Next: 8}}, Ands: []impl.And{{A: 2, B: 4}, {A: 0, B: 6}, {A: 11, B: 2}, {A: 1, B: 1}}, Bads: []int{8}}
	for _, c := range []struct {
		m    int
		want []int
	}{
		{0, nil}, {1, nil},
		{2, []int{1}}, {5, []int{2}},
		{6, []int{3}}, {7, []int{3}},
		{8, []int{1, 2, 4}}, {9, []int{1, 2, 4}},
		{10, []int{3, 5}},
		{12, []int{1, 3, 5, 6}},
		{14, []int{7}}, {15, []int{7}},
		{16, nil}, {17, nil}, {-1, nil}, {-2, nil}, {-8, nil}, {-1 << 63, nil}, {1<<63 - 1, nil},
	} {
		wantInts(t, fmt.Sprint(c.m), impl.AigNeeds(a, c.m), true, c.want, true)
	}
	for _, m := range []int{-1, 0, 1, 2} {
		wantInts(t, "of nothing", impl.AigNeeds(impl.Aig{}, m), true, nil, true)
	}
}
