package tests

import (
	"fmt"
	"math/rand/v2"
	"slices"
	"testing"

	"loop.example/registrar/impl"
)

// wrongStates is numbers that are no state of the document's example.
func wrongStates() [][]int {
	return [][]int{nil, {}, {0}, {0, 0, 0}, {-1, 0}, {6, 0}, {0, -1}, {0, 2}, {5, 1, 0}, {-1 << 63, 0}, {0, 1<<63 - 1}, {1<<63 - 1, 1<<63 - 1}}
}

func TestStatesThatAreOk(t *testing.T) {
	m := mustMach(t, example)
	for _, s := range allStates(m) {
		if !impl.StateOk(m, s) {
			t.Errorf("%v is no state", s)
		}
	}
	for _, s := range wrongStates() {
		if impl.StateOk(m, s) {
			t.Errorf("%v is a state", s)
		}
	}
	shifted := impl.Mach{Decls: []impl.Decl{numbers("a", 3, 5)}}
	for n := -1; n < 8; n++ {
		if got := impl.StateOk(shifted, []int{n}); got != (n >= 3 && n <= 5) {
			t.Errorf("%d: %v", n, got)
		}
	}
}

func TestStatesOfWrongInputs(t *testing.T) {
	for what, m := range wrongMachs() {
		s := []int{}
		for _, d := range m.Decls {
			s = append(s, d.Low)
		}
		value, ok := impl.StateValue(m, s, yes())
		if impl.StateOk(m, s) || value != 0 || ok || len(impl.StateInits(m)) != 0 || len(impl.StateSteps(m, s)) != 0 || impl.StateNum(m, s) != -1 || len(impl.StateOf(m, 0)) != 0 {
			t.Errorf("%s: %d %v", what, value, ok)
		}
	}
	m := mustMach(t, example)
	for _, s := range wrongStates() {
		value, ok := impl.StateValue(m, s, yes())
		if value != 0 || ok || len(impl.StateSteps(m, s)) != 0 || impl.StateNum(m, s) != -1 {
			t.Errorf("%v: %d %v", s, value, ok)
		}
	}
	for _, n := range []int{-1, 12, 13, -1 << 63, 1<<63 - 1} {
		if s := impl.StateOf(m, n); len(s) != 0 {
			t.Errorf("at %d: %v", n, s)
		}
	}
	for what, e := range wrongExps() {
		if value, ok := impl.StateValue(m, []int{1, 1}, e); value != 0 || ok {
			t.Errorf("%s: %d %v", what, value, ok)
		}
	}
	for _, text := range []string{"lost", "lost = lost", "!x", "x + up", "up + up", "up < up", "x | x", "x & up", "x = up", "if x then 1 else 2", "if up then x else up", "low", "if true then x else lost", "if true then 1 else lost", "up | lost"} {
		if value, ok := impl.StateValue(m, []int{1, 1}, mustExp(t, text)); value != 0 || ok {
			t.Errorf("%s: %d %v", text, value, ok)
		}
	}
}

// P28
func TestValuesAreWhatPartsSay(t *testing.T) {
	below, beyond := 0, 0
	eachMach(71, 300, func(r *rand.Rand, m impl.Mach) {
		states := allStates(m)
		for range 12 {
			s := states[r.IntN(len(states))]
			e := drawFitting(r, m.Decls, 1+r.IntN(2))
			value, ok := impl.StateValue(m, s, e)
			want := valueByHand(m.Decls, s, e)
			if !ok || value != want {
				t.Fatalf("%v, %v, %s: %d %v, want %d", m, s, showByHand(e), value, ok, want)
			}
			if value < 0 {
				below++
			}
			if value > 9 {
				beyond++
			}
			if opposite := not(e); kindByHand(m.Decls, e) == 2 && expOkByHand(opposite) {
				if o, ok := impl.StateValue(m, s, opposite); !ok || o != 1-value || value < 0 || value > 1 {
					t.Fatalf("%v, %v, %s: %d, and its opposite %d", m, s, showByHand(e), value, o)
				}
			}
			if both := two(e, "=", e); expOkByHand(both) {
				if v, ok := impl.StateValue(m, s, both); !ok || v != 1 {
					t.Fatalf("%v, %v, %s: %d %v", m, s, showByHand(both), v, ok)
				}
			}
		}
	})
	if below < 50 || beyond < 50 {
		t.Errorf("%d values below 0, %d beyond 9", below, beyond)
	}
}

func TestValuesOfEachSign(t *testing.T) {
	m := mustMach(t, "var x : 0..9; init 0; next x; var y : 0..9; init 0; next y; var a : bool; init true; next a; var b : bool; init true; next b;")
	for _, c := range []struct {
		text string
		s    []int
		want int
	}{
		{"x", []int{7, 1, 0, 0}, 7}, {"y", []int{7, 1, 0, 0}, 1}, {"a", []int{7, 1, 0, 1}, 0}, {"b", []int{7, 1, 0, 1}, 1}, {"999", []int{0, 0, 0, 0}, 999}, {"0", []int{9, 9, 1, 1}, 0}, {"true", []int{0, 0, 0, 0}, 1}, {"false", []int{1, 1, 1, 1}, 0},
		{"a | b", []int{0, 0, 0, 0}, 0}, {"a | b", []int{0, 0, 0, 1}, 1}, {"a | b", []int{0, 0, 1, 0}, 1}, {"a | b", []int{0, 0, 1, 1}, 1},
		{"a & b", []int{0, 0, 0, 0}, 0}, {"a & b", []int{0, 0, 0, 1}, 0}, {"a & b", []int{0, 0, 1, 0}, 0}, {"a & b", []int{0, 0, 1, 1}, 1},
		{"a = b", []int{0, 0, 0, 0}, 1}, {"a = b", []int{0, 0, 0, 1}, 0}, {"a = b", []int{0, 0, 1, 0}, 0}, {"a = b", []int{0, 0, 1, 1}, 1},
		{"x = y", []int{3, 3, 0, 0}, 1}, {"x = y", []int{3, 4, 0, 0}, 0}, {"x < y", []int{3, 4, 0, 0}, 1}, {"x < y", []int{4, 4, 0, 0}, 0}, {"x < y", []int{5, 4, 0, 0}, 0},
		{"x + y", []int{9, 9, 0, 0}, 18}, {"x - y", []int{2, 9, 0, 0}, -7}, {"x - y - 9", []int{0, 9, 0, 0}, -18}, {"x - (y - 9)", []int{0, 5, 0, 0}, 4}, {"0 - 999 - 999 - 999", []int{0, 0, 0, 0}, -2997}, {"999 + 999 + 999", []int{0, 0, 0, 0}, 2997},
		{"x - y < 0", []int{2, 9, 0, 0}, 1}, {"x - y = 0 - 7", []int{2, 9, 0, 0}, 1}, {"x - y + y = x", []int{2, 9, 0, 0}, 1}, {"0 - 1 < 0 - 2", []int{0, 0, 0, 0}, 0}, {"0 - 2 < 0 - 1", []int{0, 0, 0, 0}, 1},
		{"!a", []int{0, 0, 0, 0}, 1}, {"!a", []int{0, 0, 1, 0}, 0}, {"!!a", []int{0, 0, 1, 0}, 1}, {"!(a & b) = (!a | !b)", []int{0, 0, 1, 0}, 1},
		{"if a then x else y", []int{3, 8, 1, 0}, 3}, {"if a then x else y", []int{3, 8, 0, 0}, 8}, {"if a then b else !b", []int{3, 8, 0, 0}, 1}, {"if a then b else !b", []int{3, 8, 1, 0}, 0}, {"if x < y then y - x else x - y", []int{8, 3, 1, 0}, 5}, {"(if a then 0 - 1 else 1) + x", []int{8, 3, 1, 0}, 7},
		{"a = b = (x = y)", []int{1, 2, 0, 1}, 1}, {"x < y = a", []int{1, 2, 0, 1}, 0}, {"x < y = a", []int{1, 2, 1, 1}, 1},
	} {
		value, ok := impl.StateValue(m, c.s, mustExp(t, c.text))
		if !ok || value != c.want {
			t.Errorf("%s in %v: %d %v, want %d", c.text, c.s, value, ok, c.want)
		}
	}
	// a truth is just 1 or 0, of whatever it is made
	if value, ok := impl.StateValue(m, []int{9, 9, 1, 1}, sized(impl.SizeMax)); !ok || value != valueByHand(m.Decls, nil, sized(impl.SizeMax)) {
		t.Errorf("%d %v", value, ok)
	}
}

// P29
func TestPlacesOfStates(t *testing.T) {
	check := func(m impl.Mach) {
		states := allStates(m)
		if n := impl.MachSize(m); n != len(states) {
			t.Fatalf("%v: %d states, want %d", m, n, len(states))
		}
		for place, s := range states {
			if got := impl.StateNum(m, s); got != place {
				t.Fatalf("%v: %v is at %d, want %d", m, s, got, place)
			}
			if got := impl.StateOf(m, place); !same(got, s) {
				t.Fatalf("%v: %v is at %d, want %v", m, got, place, s)
			}
		}
		for _, n := range []int{-1, len(states), len(states) + 1, -len(states)} {
			if s := impl.StateOf(m, n); len(s) != 0 {
				t.Fatalf("%v: %v is at %d", m, s, n)
			}
		}
	}
	eachMach(72, 150, func(r *rand.Rand, m impl.Mach) { check(m) })
	check(wide())
	check(mustMach(t, example))
	check(impl.Mach{Decls: []impl.Decl{numbers("a", 500, 999)}})
	check(impl.Mach{Decls: []impl.Decl{numbers("a", 999, 999)}})
	check(impl.Mach{Decls: []impl.Decl{numbers("a", 1, 5), numbers("b", 2, 6), truths("c"), numbers("d", 3, 7), truths("e")}})
}

// inOrder says whether all are states, by StateNum, each once.
func inOrder(m impl.Mach, states [][]int) bool {
	last := -1
	for _, s := range states {
		n := impl.StateNum(m, s)
		if n <= last {
			return false
		}
		last = n
	}
	return true
}

// P30
func TestInitsAreStatesInOrder(t *testing.T) {
	none, many := 0, 0
	eachMach(73, 1500, func(r *rand.Rand, m impl.Mach) {
		inits := impl.StateInits(m)
		if want := initsByHand(m); !slices.EqualFunc(inits, want, same) {
			t.Fatalf("%v: %v, want %v", m, inits, want)
		}
		if !inOrder(m, inits) {
			t.Fatalf("%v: %v", m, inits)
		}
		if len(inits) == 0 {
			none++
		}
		if len(inits) > 1 {
			many++
		}
	})
	if none < 50 || many < 50 {
		t.Errorf("%d machines begin nowhere, %d in many states", none, many)
	}
}

// P31
func TestStepsAreStatesInOrder(t *testing.T) {
	none, many := 0, 0
	eachMach(74, 400, func(r *rand.Rand, m impl.Mach) {
		states := allStates(m)
		for range 8 {
			s := states[r.IntN(len(states))]
			steps := impl.StateSteps(m, s)
			if want := stepsByHand(m, s); !slices.EqualFunc(steps, want, same) {
				t.Fatalf("%v, %v: %v, want %v", m, s, steps, want)
			}
			if !inOrder(m, steps) {
				t.Fatalf("%v, %v: %v", m, s, steps)
			}
			for _, next := range steps {
				for i, d := range m.Decls {
					some := slices.ContainsFunc(d.Next, func(e impl.Exp) bool {
						value, ok := impl.StateValue(m, s, e)
						return ok && value == next[i]
					})
					if !some {
						t.Fatalf("%v, %v: no choice of %s is %d", m, s, d.Name, next[i])
					}
				}
			}
			if len(steps) == 0 {
				none++
			}
			if len(steps) > 1 {
				many++
			}
		}
	})
	if none < 50 || many < 50 {
		t.Errorf("%d states lead nowhere, %d to many", none, many)
	}
}

func TestInitsAndStepsOfEdges(t *testing.T) {
	for _, c := range []struct {
		text  string
		inits string
		from  []int
		steps string
	}{
		{example, "[[0 1] [1 1]]", []int{5, 1}, "[[0 0] [0 1]]"},
		{example, "[[0 1] [1 1]]", []int{3, 0}, "[[5 0] [5 1]]"},
		// a choice that is out of what may be is none
		{"var a : 0..2; init 0, 5; next a + 1, a - 1;", "[[0]]", []int{0}, "[[1]]"},
		{"var a : 0..2; init 2, 3; next a + 1, a - 1;", "[[2]]", []int{2}, "[[1]]"},
		{"var a : 1..2; init 0, 1; next a - 1, a - 2;", "[[1]]", []int{2}, "[[1]]"},
		{"var a : 1..2; init 0; next a - 1;", "[]", []int{1}, "[]"},
		{"var a : 0..2; init 0 - 1; next a - 3;", "[]", []int{2}, "[]"},
		{"var a : 0..2; init 999 + 999; next a + a + a;", "[]", []int{1}, "[]"},
		{"var a : 0..2; init 3 - 999 + 997, 0; next a - 5 + 5;", "[[0] [1]]", []int{2}, "[[2]]"},
		// one declaration without any choice leaves no state at all
		{"var a : bool; init true, false; next a, !a; var b : 3..4; init 2; next b + 2;", "[]", []int{1, 3}, "[]"},
		{"var b : 3..4; init 2; next b + 2; var a : bool; init true, false; next a, !a;", "[]", []int{4, 1}, "[]"},
		// choices that are the same are one
		{"var a : 0..2; init 1, 1, 2 - 1; next a, a, a;", "[[1]]", []int{2}, "[[2]]"},
		{"var a : bool; init true, !false; next a | !a, true;", "[[1]]", []int{0}, "[[1]]"},
		// in order, whatever the order of choices
		{"var a : 0..9; init 7, 0, 3; next 9 - a, a, 4;", "[[0] [3] [7]]", []int{7}, "[[2] [4] [7]]"},
		{"var a : 0..2; init 2, 0; next 2, 1; var b : bool; init true, false; next b, !b;", "[[0 0] [0 1] [2 0] [2 1]]", []int{0, 1}, "[[1 0] [1 1] [2 0] [2 1]]"},
		{"var b : bool; init true, false; next true, false; var a : 0..2; init 2, 0; next 2, 1;", "[[0 0] [0 2] [1 0] [1 2]]", []int{0, 1}, "[[0 1] [0 2] [1 1] [1 2]]"},
		// all numbers come from the state ahead
		{"var a : 0..2; init 0; next b; var b : 0..2; init 1; next a;", "[[0 1]]", []int{2, 1}, "[[1 2]]"},
		{"var a : 0..2; init 0; next a + 1; var b : 0..2; init 0; next a;", "[[0 0]]", []int{1, 0}, "[[2 1]]"},
		{"var x : 0..9; init 0; next if up & x < 9 then x + 1 else if !up & 0 < x then x - 1 else x; var up : bool; init true, false; next if x = 9 then false else up;", "[[0 0] [0 1]]", []int{9, 1}, "[[9 0]]"},
		{"var a : 7..7; init 7; next a;", "[[7]]", []int{7}, "[[7]]"},
		{"var a : 998..999; init 999, 998; next a + 1, a;", "[[998] [999]]", []int{999}, "[[999]]"},
	} {
		m := mustMach(t, c.text)
		if got := fmt.Sprint(impl.StateInits(m)); got != c.inits {
			t.Errorf("%s begins in %s, want %s", c.text, got, c.inits)
		}
		if got := fmt.Sprint(impl.StateSteps(m, c.from)); got != c.steps {
			t.Errorf("%s leads from %v to %s, want %s", c.text, c.from, got, c.steps)
		}
	}
}

// All of DeclMax declarations with ChoiceMax choices each: as many states as there can be in one step.
func TestMostSteps(t *testing.T) {
	m := impl.Mach{}
	s := []int{}
	for _, text := range []string{"a", "b", "c", "d", "e"} {
		d := impl.Decl{Name: text, High: 2, Init: []impl.Exp{num(2), num(0), num(1)}, Next: []impl.Exp{two(name(text), "+", num(1)), name(text), two(name(text), "-", num(1))}}
		m.Decls = append(m.Decls, d)
		s = append(s, 1)
	}
	wantStates(t, "inits", impl.StateInits(m), allStates(m))
	wantStates(t, "steps", impl.StateSteps(m, s), allStates(m))
	if n := len(impl.StateSteps(m, s)); n != 243 {
		t.Errorf("%d steps", n)
	}
}

// Rules say nothing of what a machine may do.
func TestRulesChangeNoStates(t *testing.T) {
	eachMach(75, 100, func(r *rand.Rand, m impl.Mach) {
		bare := impl.Mach{Decls: m.Decls}
		wantStates(t, "inits", impl.StateInits(bare), impl.StateInits(m))
		s := allStates(m)[0]
		wantStates(t, "steps", impl.StateSteps(bare, s), impl.StateSteps(m, s))
	})
}
