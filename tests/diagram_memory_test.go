package tests

import (
	"fmt"
	"math/rand/v2"
	"testing"

	"loop.example/registrar/impl"
)

// watchedDiagrams is arguments, and what they hold.
type watchedDiagrams struct {
	table []bool
	way   []bool
	a     impl.Bdd
	b     impl.Bdd
	text  string
}

func roomyBdd(b impl.Bdd) impl.Bdd {
	return impl.Bdd{Vars: b.Vars, Nodes: withRoom(b.Nodes, node(7701, 7702, 7703)), Root: b.Root}
}

func watchDiagrams(table []bool, way []bool, a impl.Bdd, b impl.Bdd) *watchedDiagrams {
	w := &watchedDiagrams{table: withRoom(table, true), way: withRoom(way, true), a: roomyBdd(a), b: roomyBdd(b)}
	w.text = w.now()
	return w
}

func (w *watchedDiagrams) now() string {
	return fmt.Sprint(w.table[:cap(w.table)], w.way[:cap(w.way)], w.a.Nodes[:cap(w.a.Nodes)], w.b.Nodes[:cap(w.b.Nodes)])
}

func (w *watchedDiagrams) still(t *testing.T, what string) {
	t.Helper()
	if now := w.now(); now != w.text {
		t.Fatalf("%s: arguments were %s and are %s", what, w.text, now)
	}
}

// wipe writes over what a call answers, and looks whether an argument changes.
func (w *watchedDiagrams) wipe(t *testing.T, what string, b impl.Bdd) {
	t.Helper()
	w.still(t, what)
	wiped(b.Nodes, node(-9900, -9900, -9900))
	w.still(t, "what "+what+" answers")
}

func checkDiagramsAreLeft(t *testing.T, w *watchedDiagrams, vars int) {
	t.Helper()
	impl.BddOk(w.a)
	impl.BddIs(w.a, w.way)
	impl.BddCount(w.a)
	w.still(t, "looking")
	b, _ := impl.BddOf(vars, w.table)
	w.wipe(t, "BddOf", b)
	table := impl.BddTable(w.a)
	w.still(t, "BddTable")
	wiped(table, true)
	wiped(table, false)
	w.still(t, "what BddTable answers")
	w.wipe(t, "BddNot", impl.BddNot(w.a))
	for _, sign := range []string{"&", "|", "=", "<"} {
		both, _ := impl.BddTwo(sign, w.a, w.b)
		w.wipe(t, "BddTwo", both)
		twice, _ := impl.BddTwo(sign, w.a, w.a)
		w.wipe(t, "BddTwo of one", twice)
	}
	for v := -1; v <= vars; v++ {
		w.wipe(t, "BddWith", impl.BddWith(w.a, v, false))
		w.wipe(t, "BddWith", impl.BddWith(w.a, v, true))
		w.wipe(t, "BddSome", impl.BddSome(w.a, v))
	}
	way, _ := impl.BddFirst(w.a)
	wiped(way, true)
	wiped(way, false)
	w.still(t, "BddFirst")
	scribble(impl.BddNeeds(w.a))
	w.still(t, "BddNeeds")
}

func TestDiagramsAreLeftAsTheyAre(t *testing.T) {
	eachTable(211, 300, func(r *rand.Rand, vars int, table []bool) {
		a := mustBdd(t, vars, table)
		b := mustBdd(t, vars, drawTable(r, vars))
		checkDiagramsAreLeft(t, watchDiagrams(table, drawBools(r, vars), a, b), vars)
	})
	one := mustBdd(t, 2, tableOfBits("0110"))
	for _, wrong := range wrongBdds() {
		checkDiagramsAreLeft(t, watchDiagrams([]bool{true, false, true}, []bool{true, false}, wrong, one), 2)
		checkDiagramsAreLeft(t, watchDiagrams(nil, nil, one, wrong), 2)
	}
}

// No call keeps anything of diagrams: the same is answered again, whatever became of an answer.
func TestNothingIsKeptOfDiagrams(t *testing.T) {
	told := func() string {
		b := mustBdd(t, 3, tableOfBits("01000111"))
		other := mustBdd(t, 3, tableOfBits("01101001"))
		both, _ := impl.BddTwo("&", b, other)
		made := []impl.Bdd{b, other, both, impl.BddNot(b), impl.BddWith(b, 1, true), impl.BddSome(b, 2)}
		way, ok := impl.BddFirst(b)
		needs := impl.BddNeeds(other)
		table := impl.BddTable(both)
		text := fmt.Sprint(made, way, ok, needs, table, impl.BddCount(b))
		for _, x := range made {
			wiped(x.Nodes, node(-9900, -9900, -9900))
		}
		wiped(way, true)
		wiped(table, true)
		scribble(needs)
		return text
	}
	first := told()
	impl.BddOf(6, greatest())
	impl.BddNot(impl.Bdd{Root: -1})
	if again := told(); again != first {
		t.Errorf("%s, and again %s", first, again)
	}
}
