package tests

import (
	"fmt"
	"math/rand/v2"
	"slices"
	"testing"

	"loop.example/registrar/impl"
)

// withRoom is a copy of a list with room behind its end, filled with something that can be told again.
func withRoom[T any](list []T, fill T) []T {
	wide := slices.Concat(list, []T{fill, fill, fill})
	return wide[:len(list)]
}

// wiped writes over a list and the room behind its end.
func wiped[T any](list []T, fill T) {
	whole := list[:cap(list)]
	for i := range whole {
		whole[i] = fill
	}
}

// wipeAig writes over all lists of a circuit, and the room behind their ends.
func wipeAig(a impl.Aig) {
	wiped(a.Latches, impl.Latch{Next: -9900})
	wiped(a.Ands, impl.And{A: -9900})
	wiped(a.Bads, -9900)
}

// watchedCircuit is arguments, and what they hold.
type watchedCircuit struct {
	a       impl.Aig
	latches []bool
	inputs  []bool
	rows    [][]bool
	text    string
}

func watchCircuit(r *rand.Rand, a impl.Aig) *watchedCircuit {
	w := &watchedCircuit{
		a:       impl.Aig{Inputs: a.Inputs, Latches: withRoom(a.Latches, impl.Latch{Next: 7701}), Ands: withRoom(a.Ands, impl.And{A: 7702}), Bads: withRoom(a.Bads, 7703)},
		latches: withRoom(drawBools(r, len(a.Latches)), true),
		inputs:  withRoom(drawBools(r, a.Inputs), true),
	}
	for range 5 {
		w.rows = append(w.rows, withRoom(drawBools(r, a.Inputs), true))
	}
	w.rows = withRoom(w.rows, []bool{true, false, true})
	w.text = w.now()
	return w
}

func (w *watchedCircuit) now() string {
	text := fmt.Sprint(w.a.Latches[:cap(w.a.Latches)], w.a.Ands[:cap(w.a.Ands)], w.a.Bads[:cap(w.a.Bads)], w.latches[:cap(w.latches)], w.inputs[:cap(w.inputs)])
	for _, row := range w.rows[:cap(w.rows)] {
		text += fmt.Sprint(row[:cap(row)])
	}
	return text
}

func (w *watchedCircuit) still(t *testing.T, what string) {
	t.Helper()
	if now := w.now(); now != w.text {
		t.Fatalf("%s: arguments were %s and are %s", what, w.text, now)
	}
}

func TestCircuitsAreLeftAsTheyAre(t *testing.T) {
	eachCircuit(41, func(r *rand.Rand, a impl.Aig) {
		w := watchCircuit(r, a)
		impl.AigOk(w.a)
		impl.AigRun(w.a, w.rows)
		impl.AigPut(w.a)
		w.still(t, "looking")
		for _, so := range []bool{true, false} {
			wiped(impl.AigValues(w.a, w.latches, w.inputs), so)
			w.still(t, "AigValues")
			next, bads := impl.AigStep(w.a, w.latches, w.inputs)
			wiped(next, so)
			wiped(bads, so)
			w.still(t, "AigStep")
			can, _ := impl.AigCan(w.a, drawMeaning(r, nodeCount(a)))
			wiped(can, so)
			w.still(t, "AigCan")
		}
		wiped(impl.AigNeeds(w.a, drawMeaning(r, nodeCount(a))), -9900)
		w.still(t, "AigNeeds")
		apart(t, "AigCnf", impl.AigCnf(w.a).Clauses)
		w.still(t, "AigCnf")
		less := impl.AigLess(w.a)
		w.still(t, "AigLess")
		wipeAig(less)
		w.still(t, "what AigLess answers")
	})
}

// A circuit that has nothing needless is handed out as a new one, too.
func TestLessOfWhatIsLessIsNew(t *testing.T) {
	eachCircuit(42, func(r *rand.Rand, a impl.Aig) {
		w := watchCircuit(r, impl.AigLess(a))
		less := impl.AigLess(w.a)
		wipeAig(less)
		w.still(t, "what AigLess answers")
	})
}

func TestListsOfAStepAreApart(t *testing.T) {
	eachCircuit(43, func(r *rand.Rand, a impl.Aig) {
		latches, inputs := drawBools(r, len(a.Latches)), drawBools(r, a.Inputs)
		for _, so := range []bool{true, false} {
			next, bads := impl.AigStep(a, latches, inputs)
			before := fmt.Sprint(bads)
			wiped(next, so)
			if after := fmt.Sprint(bads); after != before {
				t.Fatalf("bads were %s and are %s", before, after)
			}
			next, bads = impl.AigStep(a, latches, inputs)
			before = fmt.Sprint(next)
			wiped(bads, so)
			if after := fmt.Sprint(next); after != before {
				t.Fatalf("next was %s and is %s", before, after)
			}
		}
	})
}

// No call keeps anything of a circuit: the same is answered again, whatever became of an answer.
func TestNothingIsKeptOfCircuits(t *testing.T) {
	a := counting()
	ask := func() string {
		values := impl.AigValues(a, []bool{true, false}, []bool{true})
		next, bads := impl.AigStep(a, []bool{true, false}, []bool{true})
		less := impl.AigLess(a)
		needs := impl.AigNeeds(a, 20)
		read, _ := impl.AigGet(impl.AigPut(a))
		c := impl.AigCnf(a)
		can, _ := impl.AigCan(a, 20)
		text := fmt.Sprint(values, next, bads, less, needs, read, c, can)
		wiped(values, true)
		wiped(next, true)
		wiped(bads, true)
		wiped(needs, -9900)
		wiped(can, false)
		wipeAig(less)
		wipeAig(read)
		apart(t, "AigCnf", c.Clauses)
		return text
	}
	first := ask()
	if again := ask(); again != first {
		t.Errorf("%s, and again %s", first, again)
	}
}
