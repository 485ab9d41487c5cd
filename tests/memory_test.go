package tests

import (
	"fmt"
	"math/rand/v2"
	"testing"

	"loop.example/registrar/impl"
)

// roomy is a copy of numbers with room behind its end.
func roomy(numbers []int) []int {
	wide := make([]int, len(numbers)+3)
	copy(wide, numbers)
	for i := len(numbers); i < len(wide); i++ {
		wide[i] = 7700 + i
	}
	return wide[:len(numbers)]
}

func roomyClauses(clauses [][]int) [][]int {
	wide := make([][]int, len(clauses)+2)
	for i, clause := range clauses {
		wide[i] = roomy(clause)
	}
	for i := len(clauses); i < len(wide); i++ {
		wide[i] = roomy([]int{7, 7})
	}
	return wide[:len(clauses)]
}

// all is what numbers, and the room behind their end, hold.
func all(numbers []int) string {
	return fmt.Sprint(numbers[:cap(numbers)])
}

func allClauses(clauses [][]int) string {
	text := ""
	for _, clause := range clauses[:cap(clauses)] {
		text += all(clause)
	}
	return text
}

// scribble writes over numbers and the room behind their end.
func scribble(numbers []int) {
	whole := numbers[:cap(numbers)]
	for i := range whole {
		whole[i] = -9900
	}
}

// watched is arguments, and what they hold.
type watched struct {
	c     impl.Cnf
	told  []int
	proof [][]int
	model []bool
	text  string
}

func watch(c impl.Cnf, told []int, proof [][]int) *watched {
	w := &watched{c: impl.Cnf{Vars: c.Vars, Clauses: roomyClauses(c.Clauses)}, told: roomy(told), proof: roomyClauses(proof), model: make([]bool, c.Vars, c.Vars+3)}
	w.text = w.now()
	return w
}

func (w *watched) now() string {
	return allClauses(w.c.Clauses) + all(w.told) + allClauses(w.proof) + fmt.Sprint(w.model[:cap(w.model)])
}

func (w *watched) still(t *testing.T, what string) {
	t.Helper()
	if now := w.now(); now != w.text {
		t.Fatalf("%s: arguments were %s and are %s", what, w.text, now)
	}
}

// apart scribbles over each list of an answer, with the room behind its end, and looks whether another list changes.
func apart(t *testing.T, what string, clauses [][]int) {
	t.Helper()
	for i, clause := range clauses {
		before := fmt.Sprint(clauses[:i], clauses[i+1:])
		scribble(clause)
		if after := fmt.Sprint(clauses[:i], clauses[i+1:]); after != before {
			t.Fatalf("%s: two lists of one answer share memory: %s is %s", what, before, after)
		}
	}
	whole := clauses[:cap(clauses)]
	for i := range whole {
		whole[i] = []int{-9900}
	}
}

func TestArgumentsAreLeftAsTheyAre(t *testing.T) {
	eachDrawn(13, func(r *rand.Rand, c impl.Cnf, told []int) {
		w := watch(c, told, [][]int{drawClause(r, c.Vars, 3), drawClause(r, c.Vars, 3)})
		impl.CnfOk(w.c)
		impl.CnfHolds(w.c, w.model)
		impl.CnfPut(w.c)
		impl.Follows(w.c, w.told)
		impl.Count(w.c)
		impl.ProofOk(w.c, w.proof)
		w.still(t, "looking")
		// a proof of the clauses themselves is fine: all of it is gone through
		impl.ProofOk(w.c, w.c.Clauses)
		w.still(t, "ProofOk")
		units, _ := impl.CnfUnits(w.c, w.told)
		w.still(t, "CnfUnits")
		scribble(units)
		w.still(t, "what CnfUnits answers")
		core, _ := impl.Core(w.c, w.told)
		w.still(t, "Core")
		scribble(core)
		w.still(t, "what Core answers")
		bone, _ := impl.Backbone(w.c)
		scribble(bone)
		w.still(t, "Backbone")
		way, _ := impl.Solve(w.c, w.told)
		clear(way[:cap(way)])
		w.still(t, "Solve")
		less := impl.CnfLess(w.c)
		w.still(t, "CnfLess")
		apart(t, "CnfLess", less.Clauses)
		w.still(t, "what CnfLess answers")
	})
}

func TestListsOfWhatIsReadAreApart(t *testing.T) {
	eachDrawn(14, func(r *rand.Rand, c impl.Cnf, told []int) {
		got, ok := impl.CnfGet(impl.CnfPut(c))
		if !ok {
			t.Fatal(c)
		}
		apart(t, "CnfGet", got.Clauses)
	})
}

// No call keeps anything: the same is answered again, whatever was asked between, and whatever became of an answer.
func TestNothingIsKept(t *testing.T) {
	told := []int{-2}
	c := impl.Cnf{Vars: 4, Clauses: [][]int{{4, 3, 3}, {1, 2}, {-1, -3}}}
	ask := func() string {
		units, ok := impl.CnfUnits(c, told)
		way, found := impl.Solve(c, told)
		core, cannot := impl.Core(c, []int{3, 1})
		bone, _ := impl.Backbone(c)
		less := impl.CnfLess(c)
		text := fmt.Sprint(units, ok, way, found, core, cannot, bone, less, impl.Count(c), impl.CnfPut(c))
		scribble(units)
		scribble(core)
		scribble(bone)
		clear(way)
		apart(t, "CnfLess", less.Clauses)
		return text
	}
	first := ask()
	if want := "[-2 1 -3 4] true [true false false true] true [3 1] true [] {4 [[3 4] [1 2] [-1 -3]]} 5p cnf 4 3\n4 3 3 0\n1 2 0\n-1 -3 0\n"; first != want {
		t.Errorf("%q", first)
	}
	impl.Solve(impl.Cnf{Vars: 1, Clauses: [][]int{{1}, {-1}}}, nil)
	if again := ask(); again != first {
		t.Errorf("%q, and again %q", first, again)
	}
}
