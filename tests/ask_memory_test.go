package tests

import (
	"fmt"
	"math/rand/v2"
	"testing"

	"loop.example/registrar/impl"
)

// roomyAsks is a copy of what is asked with room behind the end of each list of it.
func roomyAsks(asks []impl.Ask) []impl.Ask {
	others := []impl.Ask{}
	for _, a := range asks {
		a.Exp = roomyExps([]impl.Exp{a.Exp})[0]
		a.Kids = roomyAsks(a.Kids)
		others = append(others, a)
	}
	return withRoom(others, impl.Ask{Kind: 7701, Exp: name("room")})
}

// allOfAsks is what a list of what is asked, and the room behind its end, and all lists below hold.
func allOfAsks(asks []impl.Ask) string {
	text := ""
	for _, a := range asks[:cap(asks)] {
		text += fmt.Sprint(a.Kind, allOf([]impl.Exp{a.Exp}), len(a.Kids), "(", allOfAsks(a.Kids), ")")
	}
	return text
}

// watchedAsk is arguments, and what they hold.
type watchedAsk struct {
	*watchedMach
	a    impl.Ask
	asks string
}

func watchAsk(m impl.Mach, s []int, a impl.Ask) *watchedAsk {
	w := &watchedAsk{watchedMach: watchMach(m, s, yes()), a: roomyAsks([]impl.Ask{a})[0]}
	w.asks = allOfAsks([]impl.Ask{w.a})
	return w
}

func (w *watchedAsk) still(t *testing.T, what string) {
	t.Helper()
	w.watchedMach.still(t, what)
	if now := allOfAsks([]impl.Ask{w.a}); now != w.asks {
		t.Fatalf("%s: what is asked was %s and is %s", what, w.asks, now)
	}
}

func checkAsksAreLeft(t *testing.T, w *watchedAsk) {
	t.Helper()
	impl.AskOk(w.m, w.a)
	impl.AskHolds(w.m, w.a)
	w.still(t, "looking")
	states := impl.AskStates(w.m, w.a)
	w.still(t, "AskStates")
	apart(t, "AskStates", states)
	w.still(t, "what AskStates answers")
	way, _ := impl.AskWay(w.m, w.s, w.a)
	w.still(t, "AskWay")
	apart(t, "AskWay", way)
	w.still(t, "what AskWay answers")
	scribble(impl.Classes(w.m))
	w.still(t, "Classes")
	apart(t, "ClassSteps", impl.ClassSteps(w.m))
	w.still(t, "ClassSteps")
}

func TestAsksAreLeftAsTheyAre(t *testing.T) {
	eachGoing(221, 300, func(r *rand.Rand, v *moves) {
		checkAsksAreLeft(t, watchAsk(v.m, v.states[r.IntN(len(v.states))], drawAsked(r, v.m)))
	})
	for _, f := range faults() {
		m := wide()
		f.do(&m, 1, 1)
		if f.what != "a rule that is a part of itself" {
			checkAsksAreLeft(t, watchAsk(m, []int{0, 0, 0, 0, 1}, ask(impl.AskOnce, is(yes()))))
		}
	}
	m := mustMach(t, example)
	for what, a := range wrongAsks() {
		if askEnds(a, 12) && askNodes(a) < 100 {
			checkAsksAreLeft(t, watchAsk(m, []int{1, 1}, a))
		} else if impl.AskOk(m, a) {
			t.Errorf("%s may be asked", what)
		}
	}
	// a way of just the state that is told is still another list
	w := watchAsk(m, []int{3, 1}, is(yes()))
	way, ok := impl.AskWay(w.m, w.s, w.a)
	if !ok || len(way) != 1 || !same(way[0], w.s) {
		t.Fatalf("%v %v", way, ok)
	}
	scribble(way[0])
	w.still(t, "a way of one state")
}

// askEnds says whether what is asked, and its expressions, are at most so deep, and so can be gone through.
func askEnds(a impl.Ask, most int) bool {
	if most == 0 || isDeeper(a.Exp, 12) {
		return false
	}
	for _, kid := range a.Kids {
		if !askEnds(kid, most-1) {
			return false
		}
	}
	return true
}

// No call keeps anything of what is asked: the same is answered again, whatever became of an answer.
func TestNothingIsKeptOfAsks(t *testing.T) {
	m := mustMach(t, example)
	a := ask(impl.AskUntil, isText(t, "!(x = 5)"), ask(impl.AskStay, isText(t, "up")))
	told := func() string {
		states := impl.AskStates(m, a)
		way, ok := impl.AskWay(m, []int{1, 0}, a)
		classes, steps := impl.Classes(m), impl.ClassSteps(m)
		text := fmt.Sprint(states, way, ok, classes, steps, impl.AskHolds(m, a), impl.AskOk(m, a))
		apart(t, "AskStates", states)
		apart(t, "AskWay", way)
		scribble(classes)
		apart(t, "ClassSteps", steps)
		return text
	}
	first := told()
	impl.AskStates(m, impl.Ask{})
	impl.Classes(mustMach(t, ring))
	if again := told(); again != first {
		t.Errorf("%s, and again %s", first, again)
	}
}
