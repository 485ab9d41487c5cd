package tests

import (
	"fmt"
	"math/rand/v2"
	"slices"
	"testing"
	"unsafe"

	"loop.example/registrar/impl"
)

// roomyExps is a copy of expressions with room behind the end of each list of them.
func roomyExps(exps []impl.Exp) []impl.Exp {
	others := []impl.Exp{}
	for _, e := range exps {
		e.Kids = roomyExps(e.Kids)
		others = append(others, e)
	}
	return withRoom(others, impl.Exp{Kind: 7701, Text: "room"})
}

func roomyMach(m impl.Mach) impl.Mach {
	decls, rules := []impl.Decl{}, []impl.Rule{}
	for _, d := range m.Decls {
		d.Init, d.Next = roomyExps(d.Init), roomyExps(d.Next)
		decls = append(decls, d)
	}
	for _, r := range m.Rules {
		rules = append(rules, rule(r.Name, roomyExps([]impl.Exp{r.Exp})[0]))
	}
	return impl.Mach{Decls: withRoom(decls, numbers("room", 7702, 7703)), Rules: withRoom(rules, rule("room", num(7704)))}
}

// allOf is what a list of expressions, and the room behind its end, and all lists below hold.
func allOf(exps []impl.Exp) string {
	text := ""
	for _, e := range exps[:cap(exps)] {
		text += fmt.Sprint(e.Kind, e.Num, e.Text, len(e.Kids), "(", allOf(e.Kids), ")")
	}
	return text
}

func allOfMach(m impl.Mach) string {
	text := ""
	for _, d := range m.Decls[:cap(m.Decls)] {
		text += fmt.Sprint(d.Name, d.Bool, d.Low, d.High, len(d.Init), len(d.Next), "init", allOf(d.Init), "next", allOf(d.Next))
	}
	for _, r := range m.Rules[:cap(m.Rules)] {
		text += fmt.Sprint(r.Name, r.Exp.Kind, r.Exp.Num, r.Exp.Text, allOf(r.Exp.Kids))
	}
	return text
}

// watchedMach is arguments, and what they hold.
type watchedMach struct {
	m    impl.Mach
	s    []int
	e    impl.Exp
	text string
}

func watchMach(m impl.Mach, s []int, e impl.Exp) *watchedMach {
	w := &watchedMach{m: roomyMach(m), s: roomy(s), e: roomyExps([]impl.Exp{e})[0]}
	w.text = w.now()
	return w
}

func (w *watchedMach) now() string {
	return allOfMach(w.m) + all(w.s) + allOf([]impl.Exp{w.e})
}

func (w *watchedMach) still(t *testing.T, what string) {
	t.Helper()
	if now := w.now(); now != w.text {
		t.Fatalf("%s: arguments were %s and are %s", what, w.text, now)
	}
}

func TestMachinesAreLeftAsTheyAre(t *testing.T) {
	check := func(m impl.Mach, s []int, e impl.Exp, at int) {
		w := watchMach(m, s, e)
		impl.ExpOk(w.e)
		impl.ExpSame(w.e, w.e)
		impl.ExpSame(w.e, m.Decls[0].Next[0])
		impl.ExpShow(w.e)
		w.still(t, "looking at an expression")
		wiped(impl.ExpNames(w.e), "wiped")
		w.still(t, "ExpNames")
		impl.MachCheck(w.m)
		impl.MachKind(w.m, w.e)
		impl.MachSize(w.m)
		impl.MachPut(w.m)
		w.still(t, "looking at a machine")
		impl.StateOk(w.m, w.s)
		impl.StateValue(w.m, w.s, w.e)
		impl.StateNum(w.m, w.s)
		w.still(t, "looking at a state")
		scribble(impl.StateOf(w.m, at))
		w.still(t, "StateOf")
		apart(t, "StateInits", impl.StateInits(w.m))
		w.still(t, "StateInits")
		apart(t, "StateSteps", impl.StateSteps(w.m, w.s))
		w.still(t, "StateSteps")
	}
	eachMach(81, 300, func(r *rand.Rand, m impl.Mach) {
		states := allStates(m)
		at := r.IntN(len(states))
		check(m, states[at], drawFitting(r, m.Decls, 1+r.IntN(2)), at)
	})
	for _, f := range faults() {
		m := wide()
		f.do(&m, 1, 1)
		if len(m.Decls) > 0 && len(m.Decls[0].Next) > 0 && f.what != "a rule that is a part of itself" {
			check(m, []int{0, 0, 0, 0, 1}, num(-1), -1)
		}
	}
	// where a state stays as it is, the answer is still another list
	stays := impl.Mach{Decls: []impl.Decl{numbers("a", 0, 9), truths("b")}}
	w := watchMach(stays, []int{3, 1}, yes())
	steps := impl.StateSteps(w.m, w.s)
	if len(steps) != 1 || !same(steps[0], w.s) {
		t.Fatalf("%v", steps)
	}
	scribble(steps[0])
	w.still(t, "a state that stays")
}

// listsOf is each place of each list of expressions, the room behind its end included.
func listsOf(places []*impl.Exp, exps []impl.Exp) []*impl.Exp {
	whole := exps[:cap(exps)]
	for i := range whole {
		places = append(places, &whole[i])
	}
	for i := range exps {
		places = listsOf(places, exps[i].Kids)
	}
	return places
}

func onceIn(places []*impl.Exp) bool {
	found := map[*impl.Exp]bool{}
	for _, place := range places {
		if found[place] {
			return false
		}
		found[place] = true
	}
	return true
}

func TestListsOfWhatIsReadShareNothing(t *testing.T) {
	eachExp(82, func(r *rand.Rand, e impl.Exp) {
		got, ok := impl.ExpRead(showByHand(e))
		if !ok || !onceIn(listsOf(nil, got.Kids)) {
			t.Fatalf("%v: %v", e, got)
		}
	})
	eachMach(83, 300, func(r *rand.Rand, m impl.Mach) {
		got, ok := impl.MachGet(machPutByHand(m))
		if !ok {
			return
		}
		places := []*impl.Exp{}
		for _, d := range got.Decls {
			places = listsOf(listsOf(places, d.Init), d.Next)
		}
		for _, r := range got.Rules {
			places = listsOf(places, r.Exp.Kids)
		}
		if !onceIn(places) {
			t.Fatalf("%v", m)
		}
	})
}

// within says whether a text lies in the bytes of another.
func within(part string, text string) bool {
	if part == "" || text == "" {
		return false
	}
	at, from := uintptr(unsafe.Pointer(unsafe.StringData(part))), uintptr(unsafe.Pointer(unsafe.StringData(text)))
	return at >= from && at < from+uintptr(len(text))
}

func textsOf(e impl.Exp) []string {
	texts := []string{e.Text}
	for _, kid := range e.Kids {
		texts = append(texts, textsOf(kid)...)
	}
	return texts
}

func TestNamesThatAreReadAreNew(t *testing.T) {
	outside := func(text string, parts []string) {
		t.Helper()
		for _, part := range parts {
			if within(part, text) {
				t.Errorf("%q lies in %q", part, text)
			}
		}
	}
	text := "if alpha then beta + gamma else delta - 12"
	e, _ := impl.ExpRead(text)
	outside(text, textsOf(e))
	names := impl.ExpNames(e)
	for _, part := range textsOf(e) {
		outside(part, names)
	}
	machine := "var alpha : 0..5; init 0; next alpha; always beta : alpha < 3;"
	m, ok := impl.MachGet(machine)
	if !ok {
		t.Fatal(machine)
	}
	outside(machine, slices.Concat([]string{m.Decls[0].Name, m.Rules[0].Name}, textsOf(m.Decls[0].Next[0]), textsOf(m.Rules[0].Exp)))
}

// No call keeps anything of a machine: the same is answered again, whatever became of an answer.
func TestNothingIsKeptOfMachines(t *testing.T) {
	ask := func() string {
		m, _ := impl.MachGet(example)
		e, _ := impl.ExpRead("if up then x - 5 else 7")
		names := impl.ExpNames(e)
		inits := impl.StateInits(m)
		steps := impl.StateSteps(m, []int{3, 1})
		of := impl.StateOf(m, 7)
		value, ok := impl.StateValue(m, []int{3, 1}, e)
		text := fmt.Sprint(m, e, names, inits, steps, of, value, ok, impl.StateNum(m, of), impl.MachPut(m), impl.ExpShow(e), impl.MachKind(m, e))
		wiped(names, "wiped")
		scribble(of)
		apart(t, "StateInits", inits)
		apart(t, "StateSteps", steps)
		wiped(e.Kids, num(-9900))
		wiped(m.Decls[0].Init, num(-9900))
		wiped(m.Decls[1].Next, num(-9900))
		wiped(m.Rules[1].Exp.Kids, num(-9900))
		wiped(m.Decls, numbers("wiped", 3, 4))
		wiped(m.Rules, rule("wiped", no()))
		return text
	}
	first := ask()
	impl.MachGet("var x : 0..5; init 1; next x;")
	impl.StateInits(impl.Mach{})
	if again := ask(); again != first {
		t.Errorf("%s, and again %s", first, again)
	}
}
