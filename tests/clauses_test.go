package tests

import (
	"math/rand/v2"
	"slices"
	"strings"
	"testing"

	"loop.example/registrar/impl"
)

func TestLimitsAreAsTold(t *testing.T) {
	if impl.VarMax != 60 || impl.ClauseMax != 150 || impl.WideMax != 8 || impl.TextMax != 4000 || impl.CountMax != 12 {
		t.Error("a limit is not as the table has it")
	}
}

func TestOk(t *testing.T) {
	fine := map[string]impl.Cnf{
		"nothing":                {},
		"empty clause":           {Clauses: [][]int{{}, nil}},
		"VarMax":                 {Vars: 60, Clauses: [][]int{{60, -60, 1, -1}}},
		"ClauseMax":              {Vars: 1, Clauses: repeated([]int{1}, 150)},
		"WideMax":                {Vars: 8, Clauses: [][]int{{1, -2, 3, -4, 5, -6, 7, -8}}},
		"one literal WideMax ×":  {Vars: 1, Clauses: [][]int{manyOf(-1, 8)}},
		"literal, its opposite":  {Vars: 1, Clauses: [][]int{{1, -1}}},
		"variables, not clauses": {Vars: 60},
	}
	for name, c := range fine {
		if !impl.CnfOk(c) {
			t.Errorf("%s is not ok", name)
		}
	}
	for name, c := range wrongCnfs() {
		if impl.CnfOk(c) {
			t.Errorf("%s is ok", name)
		}
	}
}

// Promise 1.
func TestHoldsOfAllIsThatOfEach(t *testing.T) {
	eachDrawn(1, func(r *rand.Rand, c impl.Cnf, told []int) {
		more := with(c, drawClause(r, c.Vars, 3))
		for _, model := range models(c.Vars) {
			all := true
			for _, clause := range c.Clauses {
				alone := impl.CnfHolds(impl.Cnf{Vars: c.Vars, Clauses: [][]int{clause}}, model)
				if alone != someIs(clause, model) {
					t.Fatalf("%v of %v is %v", clause, model, alone)
				}
				all = all && alone
			}
			if impl.CnfHolds(c, model) != all {
				t.Fatalf("%v of %v is not %v", c, model, all)
			}
			if impl.CnfHolds(more, model) && !all {
				t.Fatalf("one clause more leaves %v more: %v", model, more)
			}
			if !impl.CnfHolds(impl.Cnf{Vars: c.Vars}, model) {
				t.Fatalf("no clauses do not hold in %v", model)
			}
		}
	})
}

func TestHoldsAtEdges(t *testing.T) {
	if !impl.CnfHolds(impl.Cnf{}, nil) || !impl.CnfHolds(impl.Cnf{}, []bool{}) {
		t.Error("no clauses of no variables do not hold")
	}
	if impl.CnfHolds(impl.Cnf{Clauses: [][]int{{}}}, nil) || impl.CnfHolds(impl.Cnf{Vars: 1, Clauses: [][]int{{1}, {}}}, []bool{true}) {
		t.Error("an empty clause holds")
	}
	wide := impl.Cnf{Vars: 60, Clauses: [][]int{{60}, {-59}}}
	model := make([]bool, 60)
	model[59] = true
	if !impl.CnfHolds(wide, model) {
		t.Error("the last variable is not told of")
	}
}

func TestHoldsOfWrongInputs(t *testing.T) {
	for name, c := range wrongCnfs() {
		for _, size := range []int{0, 1, 2, max(c.Vars, 0)} {
			model := make([]bool, size)
			if impl.CnfHolds(c, model) {
				t.Errorf("%s holds", name)
			}
			for i := range model {
				model[i] = true
			}
			if impl.CnfHolds(c, model) {
				t.Errorf("%s holds with all so", name)
			}
		}
	}
	two := impl.Cnf{Vars: 2, Clauses: [][]int{{1}}}
	for _, model := range [][]bool{nil, {true}, {true, true, true}} {
		if impl.CnfHolds(two, model) {
			t.Errorf("a model of %d holds", len(model))
		}
	}
	if impl.CnfHolds(impl.Cnf{}, []bool{true}) {
		t.Error("a model of 1 holds where there are no variables")
	}
}

func TestUnitsInOrder(t *testing.T) {
	cases := []struct {
		vars    int
		clauses [][]int
		told    []int
		want    []int
		ok      bool
	}{
		{0, nil, nil, nil, true},
		{0, [][]int{{}}, nil, nil, false},
		{2, [][]int{{}}, []int{1}, nil, false},
		{3, nil, []int{3, -1}, []int{3, -1}, true},
		{2, [][]int{{2, 2}, {1}}, nil, []int{2, 1}, true},
		{2, [][]int{{1, -1}}, nil, nil, true},
		{2, [][]int{{1, -1}}, []int{-1}, []int{-1}, true},
		{3, [][]int{{3}, {1, -2}, {2, -3}}, nil, []int{3, 2, 1}, true},
		// it begins anew: the clause ahead of the one just taken comes first
		{4, [][]int{{-1, 4}, {1}, {3}, {-4, 2}}, nil, []int{1, 4, 3, 2}, true},
		{3, [][]int{{-1, 2}, {-2, 3}, {-3, -1}}, []int{1}, nil, false},
		{3, [][]int{{-1, 2}, {-2, 3}, {-3, -1}}, []int{-2}, []int{-2, -1}, true},
		{2, [][]int{{1, 1, 2}}, []int{-2}, []int{-2, 1}, true},
		{1, [][]int{{1}, {-1}}, nil, nil, false},
		// a clause of which one is told is none, whatever else is told
		{3, [][]int{{1, 2, 3}}, []int{-2, 1}, []int{-2, 1}, true},
		// not each thing that follows follows at once
		{2, [][]int{{1, 2}, {1, -2}}, nil, nil, true},
	}
	for i, x := range cases {
		got, ok := impl.CnfUnits(impl.Cnf{Vars: x.vars, Clauses: x.clauses}, x.told)
		if !same(got, x.want) || ok != x.ok {
			t.Errorf("case %d: %v %v", i, got, ok)
		}
	}
}

// Promise 2.
func TestUnitsFollow(t *testing.T) {
	eachDrawn(2, func(r *rand.Rand, c impl.Cnf, told []int) {
		units, ok := impl.CnfUnits(c, told)
		want, fine := unitsByHand(c.Clauses, told)
		wantInts(t, show(c, told), units, ok, want, fine)
		way, found := impl.Solve(c, told)
		if !ok {
			if found || len(waysOf(c, told)) > 0 {
				t.Fatalf("there is a way: %v %v", c, told)
			}
			return
		}
		if !same(units[:len(told)], told) {
			t.Fatalf("%v does not begin with %v", units, told)
		}
		again, ok := impl.CnfUnits(c, units)
		wantInts(t, "again "+show(c, told), again, ok, units, true)
		for _, l := range units {
			if found && !litIs(l, way) {
				t.Fatalf("%d does not hold in %v: %v %v", l, way, c, told)
			}
		}
	})
}

func TestUnitsAtLimits(t *testing.T) {
	chain := impl.Cnf{Vars: 60}
	want := []int{60}
	for v := 59; v >= 1; v-- {
		chain.Clauses = append(chain.Clauses, []int{v, -v - 1})
		want = append(want, v)
	}
	got, ok := impl.CnfUnits(chain, []int{60})
	wantInts(t, "chain", got, ok, want, true)
	got, ok = impl.CnfUnits(impl.Cnf{Vars: 60}, want)
	wantInts(t, "all told", got, ok, want, true)
	full := impl.Cnf{Vars: 8, Clauses: repeated([]int{1, 2, 3, 4, 5, 6, 7, 8}, 150)}
	got, ok = impl.CnfUnits(full, []int{-1, -2, -3, -4, -5, -6, -7})
	wantInts(t, "wide", got, ok, []int{-1, -2, -3, -4, -5, -6, -7, 8}, true)
}

func TestUnitsOfWrongInputs(t *testing.T) {
	for name, c := range wrongCnfs() {
		got, ok := impl.CnfUnits(c, nil)
		wantInts(t, name, got, ok, nil, false)
	}
	for _, told := range wrongTold() {
		got, ok := impl.CnfUnits(impl.Cnf{Vars: 2}, told)
		wantInts(t, show(impl.Cnf{}, told), got, ok, nil, false)
	}
	got, ok := impl.CnfUnits(impl.Cnf{}, []int{1})
	wantInts(t, "no variables", got, ok, nil, false)
}

// lessByHand is what the document says of CnfLess, word by word.
func lessByHand(c impl.Cnf) impl.Cnf {
	part := func(a []int, b []int) bool {
		return !slices.ContainsFunc(a, func(l int) bool { return !slices.Contains(b, l) })
	}
	less := impl.Cnf{Vars: c.Vars}
	for i, clause := range c.Clauses {
		drop := slices.ContainsFunc(clause, func(l int) bool { return slices.Contains(clause, -l) })
		for j, other := range c.Clauses {
			drop = drop || i != j && part(other, clause) && (j < i || !part(clause, other))
		}
		if drop {
			continue
		}
		kept := []int{}
		for v := 1; v <= c.Vars; v++ {
			for _, l := range []int{v, -v} {
				if slices.Contains(clause, l) {
					kept = append(kept, l)
				}
			}
		}
		less.Clauses = append(less.Clauses, kept)
	}
	return less
}

func TestLessInOrder(t *testing.T) {
	cases := []struct {
		clauses [][]int
		want    [][]int
	}{
		{nil, nil},
		{[][]int{{}}, [][]int{{}}},
		{[][]int{{1}, {}, {2, -1}, {}}, [][]int{{}}},
		{[][]int{{3, -1, 2, 3, -1}}, [][]int{{-1, 2, 3}}},
		{[][]int{{1, -1}, {2, 1, -2, 3}}, nil},
		{[][]int{{2, 1}, {1, 2, 2}, {1, 2}}, [][]int{{1, 2}}},
		{[][]int{{3, 1, 2}, {-3}, {2, 1}}, [][]int{{-3}, {1, 2}}},
		{[][]int{{1, 2, 3}, {1, 2}, {1}}, [][]int{{1}}},
		{[][]int{{1}, {-1}}, [][]int{{1}, {-1}}},
		{[][]int{{1, 2}, {-1, 2}, {2, 3}}, [][]int{{1, 2}, {-1, 2}, {2, 3}}},
	}
	for i, x := range cases {
		got := impl.CnfLess(impl.Cnf{Vars: 3, Clauses: x.clauses})
		if !sameCnf(got, impl.Cnf{Vars: 3, Clauses: x.want}) {
			t.Errorf("case %d: %v", i, got)
		}
	}
}

// Promise 3.
func TestLessLeavesTheSameWays(t *testing.T) {
	eachDrawn(3, func(r *rand.Rand, c impl.Cnf, told []int) {
		less := impl.CnfLess(c)
		if !sameCnf(less, lessByHand(c)) || len(less.Clauses) > len(c.Clauses) || !sameCnf(impl.CnfLess(less), less) {
			t.Fatalf("%v: %v", c, less)
		}
		if !slices.EqualFunc(waysOf(less, nil), waysOf(c, nil), slices.Equal[[]bool]) || impl.Count(less) != impl.Count(c) {
			t.Fatalf("%v has other ways than %v", less, c)
		}
		way, found := impl.Solve(c, nil)
		first, there := impl.Solve(less, nil)
		wantModel(t, show(c), first, there, way, found)
	})
}

func TestLessAtLimitsAndOfWrongInputs(t *testing.T) {
	full := impl.Cnf{Vars: 60, Clauses: repeated([]int{60, 59, 58, 57, 56, 55, 54, 53}, 150)}
	want := impl.Cnf{Vars: 60, Clauses: [][]int{{53, 54, 55, 56, 57, 58, 59, 60}}}
	if got := impl.CnfLess(full); !sameCnf(got, want) {
		t.Errorf("%v", got)
	}
	for name, c := range wrongCnfs() {
		if got := impl.CnfLess(c); !isNothing(got) {
			t.Errorf("%s: %v", name, got)
		}
	}
}

func TestPut(t *testing.T) {
	cases := map[string]impl.Cnf{
		"p cnf 0 0\n":                                {},
		"p cnf 60 0\n":                               {Vars: 60},
		"p cnf 0 2\n0\n0\n":                          {Clauses: [][]int{{}, nil}},
		"p cnf 60 3\n60 -60 0\n0\n3 -2 3 0\n":        {Vars: 60, Clauses: [][]int{{60, -60}, {}, {3, -2, 3}}},
		"p cnf 8 1\n8 -7 6 -5 4 -3 2 -1 0\n":         {Vars: 8, Clauses: [][]int{{8, -7, 6, -5, 4, -3, 2, -1}}},
		"p cnf 1 1\n1 1 1 1 1 1 1 1 0\n":             {Vars: 1, Clauses: [][]int{manyOf(1, 8)}},
		"p cnf 1 150\n" + strings.Repeat("0\n", 150): {Vars: 1, Clauses: repeated(nil, 150)},
	}
	for want, c := range cases {
		if got := impl.CnfPut(c); got != want {
			t.Errorf("%q, want %q", got, want)
		}
		if got, ok := impl.CnfGet(want); !ok || !sameCnf(got, c) {
			t.Errorf("%q is read as %v %v", want, got, ok)
		}
	}
	for name, c := range wrongCnfs() {
		if got := impl.CnfPut(c); got != "" {
			t.Errorf("%s: %q", name, got)
		}
	}
}

// spread draws blanks and newlines around and between words.
func spread(r *rand.Rand, words []string) string {
	gaps := []string{" ", "\n", "  ", "\n\n", " \n ", "\n   \n"}
	text := ""
	if r.IntN(2) == 0 {
		text = gaps[r.IntN(len(gaps))]
	}
	for i, word := range words {
		text += word
		if i < len(words)-1 || r.IntN(2) == 0 {
			text += gaps[r.IntN(len(gaps))]
		}
	}
	return text
}

// Promise 4.
func TestGetOfPut(t *testing.T) {
	eachDrawn(4, func(r *rand.Rand, c impl.Cnf, told []int) {
		text := impl.CnfPut(c)
		for _, x := range []string{text, "\n " + text + " \n", spread(r, strings.Fields(text))} {
			got, ok := impl.CnfGet(x)
			if !ok || !sameCnf(got, c) {
				t.Fatalf("%q is read as %v %v", x, got, ok)
			}
			if again, ok := impl.CnfGet(impl.CnfPut(got)); !ok || !sameCnf(again, c) {
				t.Fatalf("%q is read again as %v %v", x, again, ok)
			}
		}
	})
}

// Each word of a text counts: with fewer, more, or another one there it is none.
func TestGetOfOtherWords(t *testing.T) {
	words := strings.Fields("p cnf 3 3 1 -2 0 0 3 3 0")
	whole, ok := impl.CnfGet(strings.Join(words, " "))
	if !ok || !sameCnf(whole, impl.Cnf{Vars: 3, Clauses: [][]int{{1, -2}, {}, {3, 3}}}) {
		t.Fatal(whole, ok)
	}
	for i := range words {
		if got, ok := impl.CnfGet(strings.Join(words[:i], " ")); ok || !isNothing(got) {
			t.Errorf("the first %d words: %v %v", i, got, ok)
		}
		for _, word := range []string{"x", "-0", "00", "07", "4", "-4", "+1", "1.", "-", "--1", "1-", "1\t", "\r", "é", "\xff", "1_0", "0x1", "100000", "-100000", "99999"} {
			if i == 2 && word == "4" {
				continue // so many variables there may be
			}
			other := slices.Clone(words)
			other[i] = word
			if got, ok := impl.CnfGet(strings.Join(other, " ")); ok || !isNothing(got) {
				t.Errorf("%q: %v %v", other, got, ok)
			}
		}
	}
	for _, more := range []string{"0", "1", "1 0", "p", "x", "%"} {
		if got, ok := impl.CnfGet(strings.Join(words, " ") + " " + more); ok || !isNothing(got) {
			t.Errorf("with %q behind: %v %v", more, got, ok)
		}
	}
}

func TestGetOfWrongTexts(t *testing.T) {
	wrong := []string{
		"", " ", "\n", "p", "p cnf", "p cnf 0", "pcnf 0 0", "p cnf0 0", "P cnf 0 0", "p CNF 0 0", "c p cnf 0 0", "cnf p 0 0",
		"p cnf 00 0", "p cnf 0 00", "p cnf -0 0", "p cnf 0 -0", "p cnf -1 0", "p cnf 1 -1", "p cnf +1 0", "p cnf 01 0",
		"p cnf 61 0", "p cnf 60 1", "p cnf 0 0 0", "p cnf 2 1 1 2", "p cnf 2 1 1 0 2", "p cnf 2 1 1 0 2 0", "p cnf 2 2 1 0",
		"p cnf 2 1 3 0", "p cnf 2 1 -3 0", "p cnf 2 1 1 00", "p cnf 2 1 1 -0", "p cnf 2 1 000001 0", "p cnf 2 1 1 0x",
		"p\tcnf 0 0", "p cnf 0\t0", "p cnf 0 0\t", "p cnf 0 0\r\n", "p cnf 0 0\x00", "p cnf 0 0\v", "p cnf 0\u00a00",
		"p cnf 9 1 1 2 3 4 5 6 7 8 9 0", "p cnf 1 1 1 1 1 1 1 1 1 1 1 0",
		"p cnf 1 151\n" + strings.Repeat("0\n", 151), "p cnf 1 150\n" + strings.Repeat("0\n", 151), "p cnf 1 151\n" + strings.Repeat("0\n", 150),
		"p cnf 99999 0", "p cnf 100000 0", "p cnf 18446744073709551616 0", "p cnf 1 18446744073709551616 0",
	}
	for _, text := range wrong {
		if got, ok := impl.CnfGet(text); ok || !isNothing(got) {
			t.Errorf("%q is read as %v", text, got)
		}
	}
}

func TestGetAtTextMax(t *testing.T) {
	short := "p cnf 2 1 1 -2 0"
	want := impl.Cnf{Vars: 2, Clauses: [][]int{{1, -2}}}
	for _, gap := range []string{" ", "\n"} {
		room := strings.Repeat(gap, impl.TextMax-len(short))
		for _, text := range []string{room + short, short + room, "p cnf" + room + short[5:]} {
			if got, ok := impl.CnfGet(text); !ok || !sameCnf(got, want) {
				t.Errorf("a text of TextMax bytes is read as %v %v", got, ok)
			}
			if got, ok := impl.CnfGet(text + gap); ok || !isNothing(got) {
				t.Errorf("a text of one byte more is read as %v", got)
			}
		}
	}
	great := impl.Cnf{Vars: 60, Clauses: repeated([]int{-53, -54, -55, -56, -57, -58, -59, -60}, 150)}
	text := impl.CnfPut(great)
	if len(text) != len("p cnf 60 150\n")+150*34 {
		t.Errorf("CnfPut of %d bytes", len(text))
	}
	if got, ok := impl.CnfGet(text); ok || !isNothing(got) {
		t.Errorf("%d bytes are read", len(text))
	}
}
