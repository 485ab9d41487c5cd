package tests

import (
	"fmt"
	"math/rand/v2"
	"strings"
	"testing"

	"loop.example/registrar/impl"
)

// watchedWay is arguments, and what they hold.
type watchedWay struct {
	*watchedMach
	trace [][]int
	picks []int
	lists string
}

func watchWay(m impl.Mach, e impl.Exp, trace [][]int, picks []int) *watchedWay {
	w := &watchedWay{watchedMach: watchMach(m, nil, e), trace: roomyClauses(trace), picks: roomy(picks)}
	w.lists = allClauses(w.trace) + all(w.picks)
	return w
}

func (w *watchedWay) still(t *testing.T, what string) {
	t.Helper()
	w.watchedMach.still(t, what)
	if now := allClauses(w.trace) + all(w.picks); now != w.lists {
		t.Fatalf("%s: arguments were %s and are %s", what, w.lists, now)
	}
}

// rules is the places of all rules, and some where there is none.
func (w *watchedWay) rules() []int {
	places := []int{-1}
	for i := range len(w.m.Rules) + 1 {
		places = append(places, i)
	}
	return places
}

func checkWaysAreLeft(t *testing.T, w *watchedWay) {
	t.Helper()
	states, far := impl.Reach(w.m)
	w.still(t, "Reach")
	scribble(far)
	apart(t, "Reach", states)
	w.still(t, "what Reach answers")
	impl.TraceOk(w.m, w.trace)
	w.still(t, "TraceOk")
	apart(t, "Stuck", impl.Stuck(w.m))
	w.still(t, "Stuck")
	apart(t, "Walk", impl.Walk(w.m, w.picks))
	w.still(t, "Walk")
	for _, i := range w.rules() {
		trace, _ := impl.Check(w.m, i)
		w.still(t, "Check")
		apart(t, "Check", trace)
		w.still(t, "what Check answers")
		for n := -1; n <= impl.FarMax+1; n += 2 {
			impl.Within(w.m, i, n)
			impl.Inductive(w.m, i, n)
		}
		impl.Proves(w.m, i, w.e)
		impl.Proof(w.m, i)
		w.still(t, "proofs")
	}
	e, _ := impl.Always(w.m)
	w.still(t, "Always")
	for _, place := range listsOf(nil, e.Kids) {
		*place = num(-9900)
	}
	w.still(t, "what Always answers")
}

func TestWaysLeaveMachinesAsTheyAre(t *testing.T) {
	eachGoing(121, 300, func(r *rand.Rand, v *moves) {
		picks := []int{}
		for range r.IntN(9) {
			picks = append(picks, drawPick(r))
		}
		trace := v.statesAt(v.walk(picks))
		if r.IntN(3) == 0 {
			trace = append(trace, v.states[r.IntN(len(v.states))])
		}
		e, ok := v.always()
		if !ok || r.IntN(2) == 0 {
			e = drawFitting(r, v.m.Decls, 1+r.IntN(2))
		}
		checkWaysAreLeft(t, watchWay(v.m, e, trace, picks))
	})
	for _, f := range faults() {
		m := wide()
		f.do(&m, 1, 1)
		if f.what != "a rule that is a part of itself" {
			checkWaysAreLeft(t, watchWay(m, num(-1), [][]int{{0, 1}, nil}, []int{1, 2}))
		}
	}
}

// Also where a walk stays in one state each state of the answer is a list of its own.
func TestStatesOfAWalkThatStaysAreApart(t *testing.T) {
	m := mustMach(t, "var a : 0..9; init 3; next a; var b : bool; init true; next b;")
	for many := range 6 {
		states := impl.Walk(m, make([]int, many))
		if len(states) != many {
			t.Fatalf("%v", states)
		}
		apart(t, "Walk", states)
	}
}

func TestListsOfReachAreApart(t *testing.T) {
	eachGoing(122, 100, func(r *rand.Rand, v *moves) {
		states, far := impl.Reach(v.m)
		before := fmt.Sprint(states)
		scribble(far)
		if after := fmt.Sprint(states); after != before {
			t.Fatalf("states were %s and are %s", before, after)
		}
		states, far = impl.Reach(v.m)
		before = fmt.Sprint(far)
		apart(t, "Reach", states)
		if after := fmt.Sprint(far); after != before {
			t.Fatalf("%s and is %s", before, after)
		}
	})
}

func TestListsOfAlwaysShareNothing(t *testing.T) {
	eachGoing(123, 300, func(r *rand.Rand, v *moves) {
		if e, ok := impl.Always(v.m); ok && !onceIn(listsOf(nil, e.Kids)) {
			t.Fatalf("%v: %s", v.m, showByHand(e))
		}
	})
}

func TestNamesOfAlwaysAreNew(t *testing.T) {
	// the names are made here, so that they are not the program's own
	alpha, beta := strings.Clone("alpha"), strings.Clone("beta")
	m := impl.Mach{Decls: []impl.Decl{numbers(alpha, 0, 3), truths(beta)}}
	e, ok := impl.Always(m)
	if !ok || !sameExp(e, mustExp(t, "alpha = 0 & beta")) {
		t.Fatalf("%v %v", e, ok)
	}
	for _, part := range textsOf(e) {
		if within(part, alpha) || within(part, beta) {
			t.Errorf("%q lies in a name of the machine", part)
		}
	}
}

// No call keeps anything of ways: the same is answered again, whatever became of an answer.
func TestNothingIsKeptOfWays(t *testing.T) {
	ask := func() string {
		m := mustMach(t, example)
		states, far := impl.Reach(m)
		trace, ok := impl.Check(m, 0)
		small := mustMach(t, "var a : 0..3; init 0; next a + 1; always p : a < 4;")
		stuck := impl.Stuck(small)
		walk := impl.Walk(m, []int{1, 0, 3, 7, -1})
		e, has := impl.Always(small)
		text := fmt.Sprint(states, far, trace, ok, stuck, walk, e, has, impl.TraceOk(m, trace), impl.Within(m, 0, 1), impl.Within(m, 0, 2), impl.Inductive(m, 2, 1), impl.Proof(m, 2), impl.Proof(small, 0), impl.Proves(small, 0, e))
		scribble(far)
		apart(t, "Reach", states)
		apart(t, "Check", trace)
		apart(t, "Stuck", stuck)
		apart(t, "Walk", walk)
		for _, place := range listsOf(nil, e.Kids) {
			*place = num(-9900)
		}
		return text
	}
	first := ask()
	impl.Reach(impl.Mach{})
	impl.Proof(mustMach(t, ring), 1)
	if again := ask(); again != first {
		t.Errorf("%s, and again %s", first, again)
	}
}
