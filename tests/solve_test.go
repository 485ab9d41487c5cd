package tests

import (
	"math/rand/v2"
	"slices"
	"testing"

	"loop.example/registrar/impl"
)

// firstOf is the first of ways, and whether there is one.
func firstOf(ways [][]bool) ([]bool, bool) {
	if len(ways) == 0 {
		return nil, false
	}
	return ways[0], true
}

func TestSolveAtEdges(t *testing.T) {
	cases := []struct {
		c    impl.Cnf
		told []int
		want []bool
		ok   bool
	}{
		{impl.Cnf{}, nil, nil, true},
		{impl.Cnf{Clauses: [][]int{{}}}, nil, nil, false},
		{impl.Cnf{Vars: 2, Clauses: [][]int{{}}}, []int{1}, nil, false},
		{impl.Cnf{Vars: 3}, nil, []bool{false, false, false}, true},
		{impl.Cnf{Vars: 3}, []int{2}, []bool{false, true, false}, true},
		{impl.Cnf{Vars: 2, Clauses: [][]int{{1, 2}}}, nil, []bool{false, true}, true},
		{impl.Cnf{Vars: 2, Clauses: [][]int{{1, 2}}}, []int{-2}, []bool{true, false}, true},
		{impl.Cnf{Vars: 2, Clauses: [][]int{{2, 2}, {1, -1}}}, nil, []bool{false, true}, true},
		{impl.Cnf{Vars: 2, Clauses: [][]int{{1}}}, []int{-1}, nil, false},
		{impl.Cnf{Vars: 1, Clauses: [][]int{{1}, {-1}}}, nil, nil, false},
		// what follows of the first variable not so is taken back with it
		{impl.Cnf{Vars: 3, Clauses: [][]int{{1, 2, 3}, {1, 2, -3}, {1, -2, 3}, {1, -2, -3}}}, nil, []bool{true, false, false}, true},
		// the first variable decides, however many later ones are so
		{impl.Cnf{Vars: 4, Clauses: [][]int{{1, 2}, {1, 3}, {1, 4}}}, nil, []bool{false, true, true, true}, true},
	}
	for i, x := range cases {
		got, ok := impl.Solve(x.c, x.told)
		if !slices.Equal(got, x.want) || ok != x.ok {
			t.Errorf("case %d: %v %v", i, got, ok)
		}
	}
}

// Promise 5.
func TestSolveIsTheFirstWay(t *testing.T) {
	eachDrawn(5, func(r *rand.Rand, c impl.Cnf, told []int) {
		way, found := impl.Solve(c, told)
		want, there := firstOf(waysOf(c, told))
		wantModel(t, show(c, told), way, found, want, there)
		if !found {
			return
		}
		if !impl.CnfHolds(c, way) || !impl.CnfHolds(with(impl.Cnf{Vars: c.Vars}, eachAlone(told)...), way) {
			t.Fatalf("%v is no way of %v %v", way, c, told)
		}
		if earlier, found := earlierWay(c, told, way); found {
			t.Fatalf("%v is ahead of %v: %v %v", earlier, way, c, told)
		}
	})
}

func eachAlone(lits []int) [][]int {
	clauses := [][]int{}
	for _, l := range lits {
		clauses = append(clauses, []int{l})
	}
	return clauses
}

// earlierWay looks for a way that has not the last variable that is so, and all ahead as they are.
func earlierWay(c impl.Cnf, told []int, way []bool) ([]bool, bool) {
	last := len(way) - 1
	for last >= 0 && !way[last] {
		last--
	}
	if last < 0 {
		return nil, false
	}
	alone := eachAlone(told)
	for i := range last {
		l := i + 1
		if !way[i] {
			l = -l
		}
		alone = append(alone, []int{l})
	}
	alone = append(alone, []int{-last - 1})
	return impl.Solve(with(c, alone...), nil)
}

// Promise 6.
func TestToldIsAsIfItWereAClause(t *testing.T) {
	eachDrawn(6, func(r *rand.Rand, c impl.Cnf, told []int) {
		way, found := impl.Solve(c, told)
		other, there := impl.Solve(with(c, eachAlone(told)...), nil)
		wantModel(t, show(c, told), way, found, other, there)
		if _, without := impl.Solve(c, nil); found && !without {
			t.Fatalf("with %v there is a way, and without there is none: %v", told, c)
		}
	})
}

func TestSolveOfWrongInputs(t *testing.T) {
	for name, c := range wrongCnfs() {
		got, ok := impl.Solve(c, nil)
		wantModel(t, name, got, ok, nil, false)
	}
	for _, told := range wrongTold() {
		got, ok := impl.Solve(impl.Cnf{Vars: 2}, told)
		wantModel(t, show(impl.Cnf{}, told), got, ok, nil, false)
	}
}

// Promise 7.
func TestCoreCannotBe(t *testing.T) {
	some := 0
	eachDrawn(7, func(r *rand.Rand, c impl.Cnf, told []int) {
		core, ok := impl.Core(c, told)
		want, cannot := coreByHand(c, told)
		wantInts(t, show(c, told), core, ok, want, cannot)
		if !ok {
			return
		}
		if _, found := impl.Solve(c, core); found {
			t.Fatalf("%v can be: %v", core, c)
		}
		for i, l := range core {
			some++
			if !slices.Contains(told, l) {
				t.Fatalf("%d is not told", l)
			}
			if _, found := impl.Solve(c, slices.Delete(slices.Clone(core), i, i+1)); !found {
				t.Fatalf("%v need not have %d: %v", core, l, c)
			}
		}
	})
	if some < 100 {
		t.Errorf("only %d literals of cores were drawn", some)
	}
}

// coreByHand leaves out what is told, from the first on, by trying all models.
func coreByHand(c impl.Cnf, told []int) ([]int, bool) {
	if len(waysOf(c, told)) > 0 {
		return nil, false
	}
	core := slices.Clone(told)
	for _, l := range told {
		at := slices.Index(core, l)
		without := slices.Delete(slices.Clone(core), at, at+1)
		if len(waysOf(c, without)) == 0 {
			core = without
		}
	}
	return core, true
}

func TestCoreInOrder(t *testing.T) {
	pairs := impl.Cnf{Vars: 5, Clauses: [][]int{{-1, -2}, {-3, -4}, {-5, -1}}}
	cases := []struct {
		c    impl.Cnf
		told []int
		want []int
		ok   bool
	}{
		// left out from the first on: the last that cannot be is what is left
		{pairs, []int{1, 2, 3, 4}, []int{3, 4}, true},
		{pairs, []int{4, 3, 2, 1}, []int{2, 1}, true},
		{pairs, []int{5, 2, 1}, []int{2, 1}, true},
		{pairs, []int{2, 5, 1}, []int{5, 1}, true},
		{pairs, []int{1, 3}, nil, false},
		{pairs, nil, nil, false},
		{impl.Cnf{}, nil, nil, false},
		{impl.Cnf{Clauses: [][]int{{}}}, nil, nil, true},
		{impl.Cnf{Vars: 2, Clauses: [][]int{{1}, {-1}}}, []int{2, 1}, nil, true},
	}
	for i, x := range cases {
		got, ok := impl.Core(x.c, x.told)
		if !same(got, x.want) || ok != x.ok {
			t.Errorf("case %d: %v %v", i, got, ok)
		}
	}
}

func TestCoreOfWrongInputs(t *testing.T) {
	for name, c := range wrongCnfs() {
		got, ok := impl.Core(c, nil)
		wantInts(t, name, got, ok, nil, false)
	}
	for _, told := range wrongTold() {
		for _, c := range []impl.Cnf{{Vars: 2}, {Vars: 2, Clauses: [][]int{{}}}} {
			got, ok := impl.Core(c, told)
			wantInts(t, show(c, told), got, ok, nil, false)
		}
	}
}

// Promise 8.
func TestFollowsHoldsInEachWay(t *testing.T) {
	eachDrawn(8, func(r *rand.Rand, c impl.Cnf, told []int) {
		ways := waysOf(c, nil)
		for _, clause := range c.Clauses {
			if !impl.Follows(c, clause) {
				t.Fatalf("%v does not follow of %v", clause, c)
			}
		}
		clause := drawClause(r, c.Vars, 4)
		want := !slices.ContainsFunc(ways, func(way []bool) bool { return !someIs(clause, way) })
		if impl.Follows(c, clause) != want {
			t.Fatalf("%v follows of %v: want %v", clause, c, want)
		}
		if impl.Follows(c, told) && impl.Count(with(c, told)) != impl.Count(c) {
			t.Fatalf("%v follows, and leaves other ways than %v", told, c)
		}
		_, against := impl.Solve(c, turned(told))
		if impl.Follows(c, told) == against {
			t.Fatalf("%v follows of %v, and so does a way against it", told, c)
		}
	})
}

func TestFollowsAtEdges(t *testing.T) {
	open := impl.Cnf{Vars: 9, Clauses: [][]int{{1}}}
	none := impl.Cnf{Vars: 9, Clauses: [][]int{{}}}
	eight, nine := []int{2, 3, 4, 5, 6, 7, 8, 1}, []int{2, 3, 4, 5, 6, 7, 8, 9, 1}
	if !impl.Follows(open, eight) || impl.Follows(open, nine) || !impl.Follows(open, manyOf(1, 8)) || impl.Follows(open, manyOf(1, 9)) {
		t.Error("WideMax")
	}
	if impl.Follows(open, nil) || !impl.Follows(none, nil) || !impl.Follows(none, []int{-5}) || impl.Follows(impl.Cnf{}, nil) {
		t.Error("the empty clause")
	}
	if !impl.Follows(open, []int{4, -4}) || !impl.Follows(open, []int{4, 4, 2, -4}) || impl.Follows(open, []int{4, 4}) {
		t.Error("a literal twice, or with its opposite")
	}
}

func TestFollowsOfWrongInputs(t *testing.T) {
	for name, c := range wrongCnfs() {
		if impl.Follows(c, nil) || impl.Follows(c, []int{1}) || impl.Follows(c, []int{1, -1}) {
			t.Errorf("of %s something follows", name)
		}
	}
	none := impl.Cnf{Vars: 2, Clauses: [][]int{{}}}
	for _, clause := range [][]int{{0}, {3}, {-3}, {1, 0}, {1, -1, 3}, {-1 << 63}, {1<<63 - 1}} {
		if impl.Follows(none, clause) {
			t.Errorf("%v follows", clause)
		}
	}
}

// Promise 9.
func TestCountOfBothIsAll(t *testing.T) {
	eachDrawn(9, func(r *rand.Rand, c impl.Cnf, told []int) {
		count := impl.Count(c)
		if count != len(waysOf(c, nil)) {
			t.Fatalf("%v: %d", c, count)
		}
		if c.Vars > 0 && impl.Count(with(c, []int{1}))+impl.Count(with(c, []int{-1})) != count {
			t.Fatalf("%v: so and not so are not %d", c, count)
		}
		if _, found := impl.Solve(c, nil); found == (count == 0) {
			t.Fatalf("%v: %d, and Solve is %v", c, count, found)
		}
	})
}

func TestCountAtEdges(t *testing.T) {
	if impl.Count(impl.Cnf{}) != 1 || impl.Count(impl.Cnf{Clauses: [][]int{{}}}) != 0 || impl.Count(impl.Cnf{Vars: 12, Clauses: [][]int{{}}}) != 0 {
		t.Error("no variables, or an empty clause")
	}
	if impl.Count(impl.Cnf{Vars: 12}) != 4096 || impl.Count(impl.Cnf{Vars: 13}) != -1 || impl.Count(impl.Cnf{Vars: 13, Clauses: [][]int{{}}}) != -1 || impl.Count(impl.Cnf{Vars: 60}) != -1 {
		t.Error("CountMax")
	}
	if impl.Count(impl.Cnf{Vars: 12, Clauses: [][]int{{1, 12}, {5, 5}, {2, -2}}}) != 4096*3/4/2 {
		t.Error("a literal twice, or with its opposite")
	}
	for name, c := range wrongCnfs() {
		if impl.Count(c) != -1 {
			t.Errorf("%s is counted", name)
		}
	}
}

// Promise 10.
func TestBackboneIsWhatFollows(t *testing.T) {
	eachDrawn(10, func(r *rand.Rand, c impl.Cnf, told []int) {
		bone, ok := impl.Backbone(c)
		way, found := impl.Solve(c, nil)
		if !found {
			wantInts(t, show(c), bone, ok, nil, false)
			return
		}
		want, follow := []int{}, []int{}
		ways := waysOf(c, nil)
		for v := 1; v <= c.Vars; v++ {
			for _, l := range []int{v, -v} {
				if !slices.ContainsFunc(ways, func(way []bool) bool { return !litIs(l, way) }) {
					want = append(want, l)
				}
				if impl.Follows(c, []int{l}) {
					follow = append(follow, l)
				}
			}
		}
		wantInts(t, show(c), bone, ok, want, true)
		wantInts(t, "what follows of "+show(c), follow, true, want, true)
		for _, l := range bone {
			if !litIs(l, way) {
				t.Fatalf("%d is not in the first way of %v", l, c)
			}
		}
	})
}

func TestBackboneAtEdges(t *testing.T) {
	got, ok := impl.Backbone(impl.Cnf{})
	wantInts(t, "no variables", got, ok, nil, true)
	got, ok = impl.Backbone(impl.Cnf{Clauses: [][]int{{}}})
	wantInts(t, "empty clause", got, ok, nil, false)
	got, ok = impl.Backbone(impl.Cnf{Vars: 60})
	wantInts(t, "VarMax", got, ok, nil, true)
	// 1 and 60 follow, but not at once
	got, ok = impl.Backbone(impl.Cnf{Vars: 60, Clauses: [][]int{{60, 2}, {60, -2}, {-60, 1, 3}, {1, -3}, {-1, -30, -30}}})
	wantInts(t, "by variable", got, ok, []int{1, -30, 60}, true)
	for name, c := range wrongCnfs() {
		got, ok := impl.Backbone(c)
		wantInts(t, name, got, ok, nil, false)
	}
}

// proofByHand is what the document says of ProofOk, word by word.
func proofByHand(c impl.Cnf, proof [][]int) bool {
	for i, clause := range proof {
		if slices.ContainsFunc(clause, func(l int) bool { return slices.Contains(clause, -l) }) {
			continue
		}
		told := []int{}
		for _, l := range clause {
			if !slices.Contains(told, -l) {
				told = append(told, -l)
			}
		}
		if _, ok := unitsByHand(with(c, proof[:i]...).Clauses, told); ok {
			return false
		}
	}
	return true
}

// Promise 11.
func TestProofsFollow(t *testing.T) {
	fine, wrong := 0, 0
	eachDrawn(11, func(r *rand.Rand, c impl.Cnf, told []int) {
		proof := [][]int{}
		for range r.IntN(5) {
			clause := drawClause(r, c.Vars, 4)
			if impl.Follows(c, clause) || r.IntN(10) == 0 {
				proof = append(proof, clause)
			}
		}
		ok := impl.ProofOk(c, proof)
		if ok != proofByHand(c, proof) {
			t.Fatalf("%v %v: %v", c, proof, ok)
		}
		if !ok {
			wrong++
			return
		}
		for i, clause := range proof {
			fine++
			if !impl.Follows(c, clause) {
				t.Fatalf("%v does not follow of %v", clause, c)
			}
			if !impl.ProofOk(c, proof[:i]) {
				t.Fatalf("the first %d of %v are not fine: %v", i, proof, c)
			}
		}
	})
	if fine < 100 || wrong < 100 {
		t.Errorf("only %d clauses that are fine and %d proofs that are not were drawn", fine, wrong)
	}
}

func TestProofAtEdges(t *testing.T) {
	four := impl.Cnf{Vars: 2, Clauses: [][]int{{1, 2}, {1, -2}, {-1, 2}, {-1, -2}}}
	cases := []struct {
		c     impl.Cnf
		proof [][]int
		want  bool
	}{
		{impl.Cnf{}, nil, true},
		{impl.Cnf{}, [][]int{{}}, false},
		{impl.Cnf{Clauses: [][]int{{}}}, [][]int{{}, {}}, true},
		{four, [][]int{{1}, {}}, true},
		{four, [][]int{{1, 1}, {}}, true},
		// it follows, but not at once
		{four, [][]int{{}}, false},
		{four, [][]int{{}, {1}}, false},
		{four, [][]int{{1}, {-1}, {2, -2}, {}}, true},
		{impl.Cnf{Vars: 2}, [][]int{{1, -1}, {2, 1, -2, 2}}, true},
		{impl.Cnf{Vars: 2}, [][]int{{1, -1}, {2}}, false},
		// what comes behind does not help
		{impl.Cnf{Vars: 2, Clauses: [][]int{{1}}}, [][]int{{2}, {1}}, false},
		{impl.Cnf{Vars: 2}, [][]int{{2}, {2}}, false},
	}
	for i, x := range cases {
		if impl.ProofOk(x.c, x.proof) != x.want {
			t.Errorf("case %d", i)
		}
	}
}

func TestProofAtLimits(t *testing.T) {
	full := impl.Cnf{Vars: 9, Clauses: repeated([]int{1}, 150)}
	eight := []int{1, 2, 3, 4, 5, 6, 7, 8}
	if !impl.ProofOk(full, repeated(eight, 150)) || impl.ProofOk(full, repeated(eight, 151)) || impl.ProofOk(full, repeated([]int{1, -1}, 151)) {
		t.Error("ClauseMax")
	}
	if !impl.ProofOk(full, [][]int{manyOf(1, 8)}) || impl.ProofOk(full, [][]int{manyOf(1, 9)}) || impl.ProofOk(full, [][]int{{1, 2, 3, 4, 5, 6, 7, 8, 9}}) {
		t.Error("WideMax")
	}
	// clauses of the proof count, too, behind ClauseMax of the others
	more := impl.Cnf{Vars: 2, Clauses: append(repeated([]int{1, -1}, 146), []int{1, 2}, []int{1, -2}, []int{-1, 2}, []int{-1, -2})}
	if !impl.ProofOk(more, [][]int{{1}, {}}) || impl.ProofOk(more, [][]int{{2, -2}, {}}) {
		t.Error("clauses ahead")
	}
}

func TestProofOfWrongInputs(t *testing.T) {
	for name, c := range wrongCnfs() {
		if impl.ProofOk(c, nil) || impl.ProofOk(c, [][]int{{1, -1}}) {
			t.Errorf("a proof of %s is fine", name)
		}
	}
	none := impl.Cnf{Vars: 2, Clauses: [][]int{{}}}
	for _, clause := range [][]int{{0}, {3}, {-3}, {1, -1, 3}, {-1 << 63}, {1<<63 - 1}} {
		if impl.ProofOk(none, [][]int{{1}, clause}) {
			t.Errorf("%v is fine", clause)
		}
	}
}

// ringsOf is a graph of so many points, each with three ends: a ring, and lines across that the drawer chose. Its lines are numbered as drawn.
func ringsOf(r *rand.Rand, points int) [][]int {
	across := r.Perm(points)
	name := r.Perm(points + points/2)
	ends := make([][]int, points)
	join := func(a int, b int, line int) {
		ends[a] = append(ends[a], name[line]+1)
		ends[b] = append(ends[b], name[line]+1)
	}
	for i := range points {
		join(i, (i+1)%points, i)
	}
	for i := 0; i < points; i += 2 {
		join(across[i], across[i+1], points+i/2)
	}
	return ends
}

// oddAt is clauses by which an even number of lines ends at each point, but an odd one at some.
func oddAt(ends [][]int, odd int) impl.Cnf {
	c := impl.Cnf{Vars: len(ends) * 3 / 2}
	for i, e := range ends {
		for signs := range 8 {
			clause := []int{}
			turns := 0
			for k := range 3 {
				l := e[k]
				if signs>>k&1 == 1 {
					l, turns = -l, turns+1
				}
				clause = append(clause, l)
			}
			if (turns%2 == 0) == (i < odd) {
				c.Clauses = append(c.Clauses, clause)
			}
		}
	}
	return c
}

// Here the solver goes back thousands of times, and learns more than it has room for.
func TestSolveWhereMuchIsTried(t *testing.T) {
	r := drawer(12)
	for range 3 {
		ends := ringsOf(r, 30)
		if got, ok := impl.Solve(oddAt(ends, 1), nil); ok || len(got) > 0 {
			t.Fatalf("an odd number of odd points: %v", got)
		}
		c := oddAt(ends, 2)
		way, found := impl.Solve(c, nil)
		if !found || !impl.CnfHolds(c, way) {
			t.Fatalf("an even number of odd points: %v", way)
		}
		if earlier, found := earlierWay(c, nil, way); found {
			t.Fatalf("%v is ahead of %v", earlier, way)
		}
	}
}

// Seven do not fit into six places.
func TestSolveOfSevenInSix(t *testing.T) {
	c := impl.Cnf{Vars: 42}
	at := func(one int, place int) int { return one*6 + place + 1 }
	for one := range 7 {
		clause := []int{}
		for place := range 6 {
			clause = append(clause, at(one, place))
			for other := range one {
				c.Clauses = append(c.Clauses, []int{-at(one, place), -at(other, place)})
			}
		}
		c.Clauses = append(c.Clauses, clause)
	}
	if _, ok := impl.Solve(c, nil); ok {
		t.Error("seven fit")
	}
	c.Clauses = slices.DeleteFunc(c.Clauses, func(clause []int) bool { return len(clause) == 6 && clause[0] == 1 })
	bone, ok := impl.Backbone(c)
	if want := turned([]int{1, 2, 3, 4, 5, 6}); !ok || !same(bone, want) {
		t.Errorf("with one of them nowhere: %v %v", bone, ok)
	}
}
