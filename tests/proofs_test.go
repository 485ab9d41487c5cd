package tests

import (
	"fmt"
	"math/rand/v2"
	"slices"
	"testing"

	"loop.example/registrar/impl"
)

func TestLimitsOfProofsAreAsTold(t *testing.T) {
	if impl.FarMax != 8 || impl.StepMax != 40 {
		t.Error(impl.FarMax, impl.StepMax)
	}
}

// P37
func TestWithinMoreIsWithinFewer(t *testing.T) {
	turns := 0
	eachGoing(111, 900, func(r *rand.Rand, v *moves) {
		for i := range v.m.Rules {
			trace, ok := impl.Check(v.m, i)
			for steps := 0; steps <= impl.FarMax; steps++ {
				got := impl.Within(v.m, i, steps)
				if got != v.within(i, steps) {
					t.Fatalf("%v, rule %d, %d steps: %v", v.m, i, steps, got)
				}
				if got != (ok || len(trace) > steps+1) {
					t.Fatalf("%v, rule %d, %d steps: %v, and Check tells %v", v.m, i, steps, got, trace)
				}
				if steps > 0 && got && !impl.Within(v.m, i, steps-1) {
					t.Fatalf("%v, rule %d: within %d, but not one less", v.m, i, steps)
				}
				if steps > 0 && !got && v.within(i, steps-1) {
					turns++
				}
			}
		}
	})
	if turns < 100 {
		t.Errorf("%d rules are broken within some steps, and not in fewer", turns)
	}
}

func TestWithinOfEdges(t *testing.T) {
	// 0 up to 9, one by one: a rule a < n is broken n steps away
	for far := 0; far <= 10; far++ {
		m := mustMach(t, fmt.Sprintf("var a : 0..9; init 0; next a + 1; always p : a < %d;", far))
		for steps := -2; steps <= 10; steps++ {
			want := steps >= 0 && steps <= 8 && (far == 10 || steps < far)
			if got := impl.Within(m, 0, steps); got != want {
				t.Errorf("broken %d away, %d steps: %v", far, steps, got)
			}
		}
	}
	for _, c := range []struct {
		what string
		text string
		want string
	}{
		{"never so", "var a : bool; init true; next a; always p : false;", "000000000"},
		{"nothing to begin in", "var a : 0..3; init 4; next a; always p : false;", "111111111"},
		{"stuck at once", "var a : 0..3; init 0; next a + 4; always p : a = 0;", "111111111"},
		{"stuck, and broken", "var a : 0..3; init 0; next if a = 0 then 1 else a + 4; always p : a = 0;", "100000000"},
		{"broken once, and then never more", "var a : 0..3; init 0; next if a < 3 then a + 1 else a; always p : !(a = 1);", "100000000"},
		{"leads to itself", "var a : 0..3; init 1; next a; always p : a = 1;", "111111111"},
		{"broken where it does not come to", "var a : 0..3; init 1; next 1; always p : a = 1;", "111111111"},
		{"several to begin in, the last being nearest", "var a : 0..9; init 0, 2, 4; next a + 1; always p : a < 7;", "111000000"},
		{"ways of several lengths", "var a : 0..9; init 0; next a + 1, if a = 0 then 4 else a + 1; always p : a < 6;", "111000000"},
	} {
		m := mustMach(t, c.text)
		got := ""
		for steps := range 9 {
			got += map[bool]string{true: "1", false: "0"}[impl.Within(m, 0, steps)]
		}
		if got != c.want {
			t.Errorf("%s: %s, want %s", c.what, got, c.want)
		}
	}
}

// P38
func TestWhatHoldsBehindFewerHoldsBehindMore(t *testing.T) {
	turns, never := 0, 0
	eachGoing(112, 900, func(r *rand.Rand, v *moves) {
		for i := range v.m.Rules {
			_, ok := impl.Check(v.m, i)
			before := false
			for states := 1; states <= impl.FarMax; states++ {
				got := impl.Inductive(v.m, i, states)
				if got != v.inductive(i, states) {
					t.Fatalf("%v, rule %d, %d states: %v", v.m, i, states, got)
				}
				if before && !got {
					t.Fatalf("%v, rule %d: behind %d states, but not one more", v.m, i, states-1)
				}
				if got && impl.Within(v.m, i, states-1) && !ok {
					t.Fatalf("%v, rule %d: proved by %d, and broken", v.m, i, states)
				}
				if states > 1 && got && !before {
					turns++
				}
				before = got
			}
			if !before {
				never++
			}
		}
	})
	if turns < 50 || never < 50 {
		t.Errorf("%d rules are inductive of several states only, %d of none", turns, never)
	}
}

// behind is a machine that stays where it begins, and has so many other states, one behind the other, ahead of one that breaks the rule.
func behind(t *testing.T, many int) impl.Mach {
	t.Helper()
	last := many + 1
	return mustMach(t, fmt.Sprintf("var a : 0..%d; init 0; next if a = 0 then 0 else if a < %d then a + 1 else a; always p : a < %d;", last, last, last))
}

func TestInductiveOfEdges(t *testing.T) {
	for many := 0; many <= 9; many++ {
		m := behind(t, many)
		for states := -2; states <= 10; states++ {
			want := states >= 1 && states <= 8 && states > many
			if got := impl.Inductive(m, 0, states); got != want {
				t.Errorf("%d behind each other, %d states: %v", many, states, got)
			}
		}
	}
	for _, c := range []struct {
		what string
		text string
		want string
	}{
		{"always so", "var a : bool; init true; next a, !a; always p : true;", "11111111"},
		{"never so", "var a : bool; init true; next a, !a; always p : false;", "11111111"},
		{"nothing to begin in", "var a : 0..3; init 4; next a + 1; always p : a < 3;", "00011111"},
		{"broken in all that it begins in", "var a : 0..3; init 3; next a; always p : a < 3;", "11111111"},
		{"broken where it is not come to, by one that leads to itself", "var a : 0..3; init 0; next a, if a < 2 then a else a + 1; always p : a < 3;", "00000000"},
		{"broken where it is not come to, by a ring of two", "var a : 0..3; init 0; next if a = 0 then 0 else if a = 1 then 2 else 1, if a = 2 then 3 else a; always p : a < 3;", "00000000"},
		{"no state leads on", "var a : 0..3; init 0; next a + 4; always p : a < 3;", "11111111"},
		{"only one that breaks it leads to one that does", "var a : 0..3; init 0; next if a = 2 then 3 else 0; always p : a < 2;", "11111111"},
		{"one step of what is so", "var a : 0..3; init 0; next if a = 2 then 3 else 0; always p : a < 3;", "01111111"},
		{"one of several steps", "var a : 0..3; init 0; next 0, if a = 2 then 3 else 0; always p : a < 3;", "01111111"},
		{"holds at first only", "var a : 0..3; init 0; next a + 1; always p : a = 0;", "01111111"},
		{"broken between", "var a : 0..9; init 0; next a + 1; always p : !(a = 4);", "00001111"},
		// nothing is ahead of 3 but 2, and 2 breaks it: so only one good state is ahead of 4
		{"what is ahead of what is ahead breaks it", "var a : 0..4; init 0; next if a = 0 then 0 else a + 1; always p : !(a = 2) & a < 4;", "01111111"},
	} {
		m := mustMach(t, c.text)
		got := ""
		for states := 1; states <= 8; states++ {
			got += map[bool]string{true: "1", false: "0"}[impl.Inductive(m, 0, states)]
		}
		if got != c.want {
			t.Errorf("%s: %s, want %s", c.what, got, c.want)
		}
	}
}

// P39
func TestWhatProvesIsTrueOfAll(t *testing.T) {
	fine, not := 0, 0
	eachGoing(113, 600, func(r *rand.Rand, v *moves) {
		exps := []impl.Exp{yes(), no()}
		for _, o := range v.m.Rules {
			exps = append(exps, o.Exp)
		}
		for range 4 {
			exps = append(exps, drawFitting(r, v.m.Decls, 2), drawSeldom(r, v.m.Decls))
		}
		if e, ok := v.always(); ok {
			exps = append(exps, e)
			if more := two(e, "|", drawSeldom(r, v.m.Decls)); expOkByHand(more) {
				exps = append(exps, more)
			}
		}
		for i, o := range v.m.Rules {
			for _, e := range exps {
				got := impl.Proves(v.m, i, e)
				if want := v.proves(i, e); got != want {
					t.Fatalf("%v, rule %d, %s: %v", v.m, i, showByHand(e), got)
				}
				if !got {
					not++
					continue
				}
				fine++
				all, _ := impl.Reach(v.m)
				for _, s := range all {
					is, _ := impl.StateValue(v.m, s, e)
					so, _ := impl.StateValue(v.m, s, o.Exp)
					if is != 1 || so != 1 {
						t.Fatalf("%v, rule %d, %s: %d and %d in %v", v.m, i, showByHand(e), is, so, s)
					}
				}
			}
		}
	})
	if fine < 300 || not < 300 {
		t.Errorf("%d proofs, %d others", fine, not)
	}
}

func TestProvesOfEdges(t *testing.T) {
	// 0 and 1 are come to, 2 leads to 1, 3 on to 4 and 5, and 6 stays
	m := mustMach(t, "var a : 0..6; init 0, 1; next if a = 0 then 1 else if a = 1 then 0 else if a = 2 then 1 else if a < 5 then a + 1 else a; always p : a < 5; always q : a < 2; always r : !(a = 1); always s : !(a = 0);")
	for _, c := range []struct {
		what string
		text string
		want string
	}{
		{"just what it comes to", "a < 2", "1100"},
		{"so written otherwise", "a = 0 | a = 1", "1100"},
		{"more than it comes to", "a < 3", "1000"},
		{"more, with one that stays and breaks it", "a < 3 | a = 6", "0000"},
		{"not so at first", "a = 1", "0000"},
		{"not so in one of those at first", "a = 1 | a = 2", "0000"},
		{"so at first, not kept", "a < 4", "0000"},
		{"not kept only where it is not come to", "a < 2 | a = 4", "0000"},
		{"kept, so at first, and not where the rule is", "true", "0000"},
		{"never so", "false", "0000"},
		{"kept, but never at first", "a = 6", "0000"},
		{"the rule itself, that is not kept", "a < 5", "0000"},
		{"a number", "a", "0000"},
		{"another number", "1", "0000"},
		{"of no kind", "a = true", "0000"},
		{"with a name of nothing", "a < 2 | lost", "0000"},
		{"with a rule's name", "p", "0000"},
		{"an if", "if a < 2 then true else false", "1100"},
		{"an if of numbers", "if a < 2 then 1 else 0", "0000"},
	} {
		for i, want := range c.want {
			if got := impl.Proves(m, i, mustExp(t, c.text)); got != (want == '1') {
				t.Errorf("%s: %s of rule %d: %v", c.what, c.text, i, got)
			}
		}
	}
	for what, e := range wrongExps() {
		if impl.Proves(m, 0, e) || impl.Proves(m, 1, e) {
			t.Errorf("%s proves", what)
		}
	}
	// of a machine that begins nowhere, never so is so of all that it begins in, and kept
	nowhere := mustMach(t, "var a : 0..3; init 4; next a + 1; always p : false; always q : a < 2;")
	for i, e := range []impl.Exp{no(), yes(), mustExp(t, "a < 1"), mustExp(t, "a = 3")} {
		if got := impl.Proves(nowhere, 0, e); got != (i == 0) {
			t.Errorf("%s of what is never: %v", showByHand(e), got)
		}
	}
	if !impl.Proves(nowhere, 1, no()) || impl.Proves(nowhere, 1, mustExp(t, "a < 2")) {
		t.Error("of what is sometimes")
	}
	// a state that is stuck keeps all
	stuck := mustMach(t, "var a : 0..3; init 3; next a + 1; always p : a = 3;")
	if !impl.Proves(stuck, 0, mustExp(t, "a = 3")) || impl.Proves(stuck, 0, mustExp(t, "1 < a")) {
		t.Error("stuck")
	}
}

// What proves may be just as large and as deep as an expression may be, and no more.
func TestProvesAtLimits(t *testing.T) {
	m := mustMach(t, "var a : bool; init true; next a; always p : a | !a;")
	for deep := 11; deep <= 13; deep++ {
		if got := impl.Proves(m, 0, deepAt(deep, impl.ExpTwo, 0)); got != (deep <= 12) {
			t.Errorf("%d deep: %v", deep, got)
		}
	}
	for nodes := 57; nodes <= 63; nodes++ {
		e := sized(nodes)
		if valueByHand(m.Decls, nil, e) == 0 {
			e = not(sized(nodes - 1))
		}
		want := nodes <= 60 && valueByHand(m.Decls, nil, e) == 1
		if got := impl.Proves(m, 0, e); got != want {
			t.Errorf("%d nodes: %v", nodes, got)
		}
	}
}

// P40
func TestProofsAreByNoLess(t *testing.T) {
	by := map[int]int{}
	holding := 0
	eachGoing(114, 900, func(r *rand.Rand, v *moves) {
		for i := range v.m.Rules {
			got := impl.Proof(v.m, i)
			if want := v.proof(i); got != want {
				t.Fatalf("%v, rule %d: %d, want %d", v.m, i, got, want)
			}
			_, ok := impl.Check(v.m, i)
			for n := 1; n <= impl.FarMax; n++ {
				both := impl.Inductive(v.m, i, n) && impl.Within(v.m, i, n-1)
				if both != (got > 0 && n >= got) {
					t.Fatalf("%v, rule %d: by %d, and so of %d: %v", v.m, i, got, n, both)
				}
			}
			if got == 0 && ok && impl.Inductive(v.m, i, impl.FarMax) || got > 0 && !ok {
				t.Fatalf("%v, rule %d: by %d, Check tells %v", v.m, i, got, ok)
			}
			if got == 0 && ok {
				holding++
			}
			by[min(got, 3)]++
		}
	})
	if by[0] < 50 || by[1] < 50 || by[2] < 10 || by[3] < 10 || holding < 10 {
		t.Errorf("%v, %d hold without", by, holding)
	}
}

func TestProofOfEdges(t *testing.T) {
	for many := 0; many <= 9; many++ {
		want := many + 1
		if many >= 8 {
			want = 0
		}
		m := behind(t, many)
		if got := impl.Proof(m, 0); got != want {
			t.Errorf("%d behind each other: %d, want %d", many, got, want)
		}
		if _, ok := impl.Check(m, 0); !ok {
			t.Errorf("%d behind each other: broken", many)
		}
	}
	for _, c := range []struct {
		what string
		text string
		want []int
	}{
		{"the example", example, []int{0, 0, 1}},
		{"inductive, and broken at first", "var a : 0..3; init 3; next a; always p : a < 3;", []int{0}},
		{"inductive of 4, and broken within 3", "var a : 0..3; init 0; next a + 1; always p : a < 3; always q : a < 4; always r : true;", []int{0, 1, 1}},
		// three good states are ahead of the last one: what is inductive of 4 is broken in just the fourth
		{"inductive of 4, and broken in the fourth", "var a : 0..3; init 0; next if a < 3 then a + 1 else a; always p : a < 3;", []int{0}},
		{"holds, and is never inductive", "var a : 0..3; init 0; next a, if a < 2 then a else a + 1; always p : a < 3; always q : a < 1;", []int{0, 1}},
		{"nothing to begin in", "var a : 0..3; init 4; next a + 1; always p : a < 3; always q : false;", []int{4, 1}},
		{"never so", "var a : bool; init true; next a; always p : false;", []int{0}},
		{"stuck at once", "var a : 0..3; init 1; next a + 4; always p : a = 1; always q : a = 0;", []int{1, 0}},
		// all that is ahead of 3 is 2, which nothing leads to
		{"by two", "var a : 0..3; init 0; next if a = 2 then 3 else 0; always p : a < 3;", []int{2}},
	} {
		m := mustMach(t, c.text)
		for i, want := range c.want {
			if got := impl.Proof(m, i); got != want {
				t.Errorf("%s, rule %d: %d, want %d", c.what, i, got, want)
			}
		}
	}
}

func TestProofsOfMostStates(t *testing.T) {
	m := mustMach(t, ring)
	if impl.Proof(m, 0) != 0 || impl.Proof(m, 1) != 0 || impl.Proof(m, 2) != 1 {
		t.Error(impl.Proof(m, 0), impl.Proof(m, 1), impl.Proof(m, 2))
	}
	if !impl.Within(m, 0, impl.FarMax) || impl.Inductive(m, 0, impl.FarMax) || !impl.Inductive(m, 2, 1) {
		t.Error("ring")
	}
	if !impl.Proves(m, 2, mustExp(t, "a < 500")) || impl.Proves(m, 2, mustExp(t, "a < 499")) || impl.Proves(m, 0, yes()) {
		t.Error("what proves of a ring")
	}
	m = box()
	if !impl.Within(m, 0, 3) || impl.Within(m, 0, 4) || impl.Inductive(m, 0, impl.FarMax) || impl.Proof(m, 0) != 0 {
		t.Error("box")
	}
}

// P41
func TestAlwaysProvesWhatHolds(t *testing.T) {
	fine, not := 0, 0
	eachGoing(115, 900, func(r *rand.Rand, v *moves) {
		e, ok := impl.Always(v.m)
		want, isOk := v.always()
		if ok != isOk || !sameExp(e, want) {
			t.Fatalf("%v: %v %v, want %v %v", v.m, e, ok, want, isOk)
		}
		if !ok {
			not++
			return
		}
		fine++
		all, _ := impl.Reach(v.m)
		for _, s := range v.states {
			value, has := impl.StateValue(v.m, s, e)
			in := slices.ContainsFunc(all, func(o []int) bool { return same(o, s) })
			if !has || in != (value == 1) {
				t.Fatalf("%v: %s is %d in %v", v.m, showByHand(e), value, s)
			}
		}
		for i := range v.m.Rules {
			_, holds := impl.Check(v.m, i)
			if got := impl.Proves(v.m, i, e); got != holds {
				t.Fatalf("%v, rule %d: proved %v, holds %v", v.m, i, got, holds)
			}
		}
	})
	if fine < 100 || not < 100 {
		t.Errorf("%d machines have one, %d have none", fine, not)
	}
}

func TestAlwaysOfEdges(t *testing.T) {
	for _, c := range []struct {
		what string
		text string
		want string
	}{
		{"comes to nothing", "var a : 0..3; init 4; next a;", "false"},
		{"comes to nothing, of one declaration", "var b : bool; init true; next b; var a : 1..3; init 0; next a;", "false"},
		{"one number", "var a : 990..999; init 997; next a;", "a = 997"},
		{"a truth", "var a : bool; init true; next a;", "a"},
		{"its opposite", "var a : bool; init false; next a;", "!a"},
		{"both", "var a : bool; init true; next !a;", "!a | a"},
		{"two numbers", "var a : 0..5; init 4; next a; var b : 0..5; init 0; next b + 1;", "a = 4 & b = 0 | a = 4 & b = 1 | a = 4 & b = 2 | a = 4 & b = 3 | a = 4 & b = 4 | a = 4 & b = 5"},
		{"all sorts", "var up : bool; init true; next !up; var b : 3..4; init 4; next b; var c : bool; init false; next c;", "!up & b = 4 & !c | up & b = 4 & !c"},
		{"a number up to 1 is no truth", "var a : 0..1; init 0; next 1;", "a = 0 | a = 1"},
		{"as many declarations as there may be", "var a : bool; init true; next a; var b : bool; init false; next b; var c : 0..9; init 3; next c; var d : bool; init true; next d; var e : bool; init false; next e;", "a & !b & c = 3 & d & !e"},
		{"in order, not as they are found", "var a : 0..5; init 5; next a - 2;", "a = 1 | a = 3 | a = 5"},
		{"states that are not come to", "var a : 0..9; init 0; next if a = 0 then 2 else 0;", "a = 0 | a = 2"},
	} {
		e, ok := impl.Always(mustMach(t, c.text))
		if !ok || !sameExp(e, mustExp(t, c.want)) {
			t.Errorf("%s: %s %v, want %s", c.what, impl.ExpShow(e), ok, c.want)
		}
	}
	// from the left, state by state, and declaration by declaration
	e, ok := impl.Always(mustMach(t, "var a : 0..2; init 0; next a + 1; var b : bool; init true; next b; var c : bool; init true; next c;"))
	of := func(n int) impl.Exp {
		return two(two(two(name("a"), "=", num(n)), "&", name("b")), "&", name("c"))
	}
	if want := two(two(of(0), "|", of(1)), "|", of(2)); !ok || !sameExp(e, want) {
		t.Errorf("%v %v, want %v", e, ok, want)
	}
}

func TestAlwaysAtLimits(t *testing.T) {
	counts := func(high int) string {
		return fmt.Sprintf("var a : 0..%d; init 0; next a + 1;", high)
	}
	falls := func(name string, first bool) string {
		return fmt.Sprintf(" var %s : bool; init %v; next false;", name, first)
	}
	for _, c := range []struct {
		what  string
		text  string
		nodes int
		deep  int
		ok    bool
	}{
		{"as deep as may be", counts(10), 43, 12, true},
		{"one deeper", counts(11), 47, 13, false},
		{"as large as may be", counts(3) + falls("b", true) + falls("c", true) + falls("d", true) + falls("e", false), 60, 9, true},
		{"one larger", counts(3) + falls("b", true) + falls("c", true) + falls("d", false) + falls("e", false), 61, 9, false},
		{"one smaller", counts(3) + falls("b", true) + falls("c", true) + falls("d", true) + falls("e", true), 59, 9, true},
		{"as large and as deep as may be", counts(9) + " var b : bool; init false; next true;", 60, 12, true},
		{"as deep, and one larger", counts(9) + " var b : bool; init false; next if a = 0 then false else true;", 61, 12, false},
	} {
		m := mustMach(t, c.text)
		v := movesOf(m)
		e, ok := impl.Always(m)
		want, isOk := v.always()
		if ok != c.ok || isOk != c.ok || !sameExp(e, want) {
			t.Errorf("%s: %v %v", c.what, e, ok)
		}
		if n := len(v.alwaysTokens()); n != c.nodes {
			t.Errorf("%s: %d nodes", c.what, n)
		}
		if c.ok && (isDeeper(e, c.deep) || !isDeeper(e, c.deep-1)) {
			t.Errorf("%s: %s", c.what, showByHand(e))
		}
	}
	for what, m := range map[string]impl.Mach{"ring": mustMach(t, ring), "box": box()} {
		if e, ok := impl.Always(m); !isNoExp(e) || ok {
			t.Errorf("%s: %v %v", what, e, ok)
		}
	}
}

func TestProofsOfWrongInputs(t *testing.T) {
	for what, m := range wrongMachs() {
		for i := -1; i <= len(m.Rules); i++ {
			if impl.Within(m, i, 0) || impl.Inductive(m, i, 1) || impl.Proves(m, i, no()) || impl.Proves(m, i, yes()) || impl.Proof(m, i) != 0 {
				t.Errorf("%s, rule %d", what, i)
			}
		}
		if e, ok := impl.Always(m); !isNoExp(e) || ok {
			t.Errorf("%s: %v %v", what, e, ok)
		}
	}
	// all would be so of each rule of these, if there were one
	for _, text := range []string{"var a : 0..3; init 4; next a + 4;", "var a : 0..3; init 4; next a + 4; always p : true;", "var a : bool; init true; next a; always p : true; always q : a; always r : true; always s : true;"} {
		m := mustMach(t, text)
		for i := range m.Rules {
			if !impl.Within(m, i, 0) || !impl.Inductive(m, i, 1) || !impl.Proves(m, i, m.Rules[i].Exp) || impl.Proof(m, i) != 1 {
				t.Errorf("%s, rule %d", text, i)
			}
		}
		for _, i := range wrongRules(len(m.Rules)) {
			if impl.Within(m, i, 0) || impl.Inductive(m, i, 1) || impl.Proves(m, i, no()) || impl.Proves(m, i, yes()) || impl.Proof(m, i) != 0 {
				t.Errorf("%s, rule %d", text, i)
			}
		}
	}
	m := mustMach(t, "var a : bool; init true; next a; always p : true;")
	for _, n := range []int{-1, 9, 10, -1 << 63, 1<<63 - 1} {
		if impl.Within(m, 0, n) || impl.Inductive(m, 0, n) {
			t.Errorf("%d", n)
		}
	}
	if !impl.Within(m, 0, 0) || !impl.Within(m, 0, 8) || impl.Inductive(m, 0, 0) || !impl.Inductive(m, 0, 1) || !impl.Inductive(m, 0, 8) {
		t.Error("at limits")
	}
}
