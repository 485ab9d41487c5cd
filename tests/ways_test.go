package tests

import (
	"fmt"
	"math/rand/v2"
	"slices"
	"strings"
	"testing"

	"loop.example/registrar/impl"
)

// ring is a machine of just StateMax states that goes through all of them, one by one.
const ring = "var a : 0..499; init 0; next if a < 499 then a + 1 else 0; always most : a < 499; always mid : a < 250; always all : a < 500;"

// box is a machine of just StateMax states, with as many declarations and choices as there may be, that comes to all of them.
func box() impl.Mach {
	m := impl.Mach{}
	for i, high := range []int{4, 4, 4, 1, 1} {
		is := name(string(rune('a' + i)))
		m.Decls = append(m.Decls, impl.Decl{Name: is.Text, High: high, Init: []impl.Exp{num(0)}, Next: []impl.Exp{two(is, "+", num(1)), is, two(is, "-", num(1))}})
	}
	m.Rules = []impl.Rule{rule("far", not(two(two(name("a"), "=", num(4)), "&", two(name("e"), "=", num(1)))))}
	return m
}

// P32
func TestReachIsAllThatFollows(t *testing.T) {
	none, long := 0, 0
	eachGoing(101, 600, func(r *rand.Rand, v *moves) {
		states, far := impl.Reach(v.m)
		want := v.far()
		if !slices.EqualFunc(states, v.statesAt(v.reached()), same) || len(far) != len(states) {
			t.Fatalf("%v: %v", v.m, states)
		}
		steps := map[string]int{}
		for i, s := range states {
			steps[fmt.Sprint(s)] = far[i]
			if far[i] != want[v.places[fmt.Sprint(s)]] {
				t.Fatalf("%v: %v is %d far", v.m, s, far[i])
			}
		}
		wantReachAsPromised(t, v.m, states, steps)
		if len(states) == 0 {
			none++
		}
		if len(far) > 0 && slices.Max(far) > 3 {
			long++
		}
	})
	if none < 20 || long < 50 {
		t.Errorf("%d machines come to nothing, %d come far", none, long)
	}
}

// wantReachAsPromised looks whether states, and how far each is, are what other functions of the program say.
func wantReachAsPromised(t *testing.T, m impl.Mach, states [][]int, far map[string]int) {
	t.Helper()
	for _, s := range impl.StateInits(m) {
		if n, found := far[fmt.Sprint(s)]; !found || n != 0 {
			t.Fatalf("%v: begins in %v, far %d %v", m, s, n, found)
		}
	}
	nearer := map[string]bool{}
	for _, s := range states {
		n := far[fmt.Sprint(s)]
		for _, next := range impl.StateSteps(m, s) {
			k, found := far[fmt.Sprint(next)]
			if !found || k > n+1 {
				t.Fatalf("%v: %v leads to %v, far %d %v", m, s, next, k, found)
			}
			nearer[fmt.Sprint(next, n+1)] = true
		}
	}
	for _, s := range states {
		if n := far[fmt.Sprint(s)]; n > 0 && !nearer[fmt.Sprint(s, n)] {
			t.Fatalf("%v: nothing one less far than %v leads there", m, s)
		}
	}
}

func TestReachOfEdges(t *testing.T) {
	for _, c := range []struct {
		what string
		text string
		want string
	}{
		{"the example", example, "[[0 0] [0 1] [1 1] [2 0] [2 1] [3 0] [3 1] [4 0] [4 1] [5 0] [5 1]] [3 0 0 1 1 1 1 2 2 2 2]"},
		{"nothing to begin in", "var a : 0..3; init 4; next 0;", "[] []"},
		{"nothing to begin in, of one declaration", "var a : bool; init true; next a; var b : 1..2; init 0, 3; next b;", "[] []"},
		{"stuck at once", "var a : 0..3; init 2; next a + 2;", "[[2]] [0]"},
		{"stuck at once, of one declaration", "var a : bool; init true, false; next a, !a; var b : 0..1; init 1; next b + 1;", "[[0 1] [1 1]] [0 0]"},
		{"leads to itself", "var a : 0..3; init 2; next a;", "[[2]] [0]"},
		{"leads to itself, and on", "var a : 0..3; init 1; next a, a + 1;", "[[1] [2] [3]] [0 1 2]"},
		{"several to begin in", "var a : 0..9; init 9, 0, 4; next a;", "[[0] [4] [9]] [0 0 0]"},
		{"several to begin in, one leading to another", "var a : 0..3; init 2, 0; next a + 1;", "[[0] [1] [2] [3]] [0 1 0 1]"},
		{"ways of several lengths", "var a : 0..4; init 0; next a + 1, a + 2, 4;", "[[0] [1] [2] [3] [4]] [0 1 1 2 1]"},
		{"several ways of one length", "var a : 0..5; init 0; next if a = 0 then 1 else if a < 3 then 5 else a, if a = 0 then 2 else if a < 3 then 5 else a;", "[[0] [1] [2] [5]] [0 1 1 2]"},
		{"back to where it began", "var a : 0..2; init 1; next a + 1, a - 1, 1;", "[[0] [1] [2]] [1 0 1]"},
		{"later found, but first in order", "var a : 0..5; init 5; next a - 1;", "[[0] [1] [2] [3] [4] [5]] [5 4 3 2 1 0]"},
		{"Low above 0", "var a : 7..9; init 8; next a + 1; var b : 3..4; init 3; next 7 - b;", "[[8 3] [9 4]] [0 1]"},
		{"one state in all", "var a : 999..999; init 999; next a;", "[[999]] [0]"},
	} {
		states, far := impl.Reach(mustMach(t, c.text))
		if got := fmt.Sprint(states, far); got != c.want {
			t.Errorf("%s: %s, want %s", c.what, got, c.want)
		}
	}
}

func TestReachOfMostStates(t *testing.T) {
	m := mustMach(t, ring)
	states, far := impl.Reach(m)
	wantStates(t, "ring", states, allStates(m))
	for i, n := range far {
		if n != i {
			t.Errorf("%v is %d far", states[i], n)
		}
	}
	m = box()
	states, far = impl.Reach(m)
	wantStates(t, "box", states, allStates(m))
	if len(states) != impl.StateMax {
		t.Errorf("%d states", len(states))
	}
	for i, s := range states {
		if far[i] != slices.Max(s) {
			t.Errorf("%v is %d far", s, far[i])
		}
	}
}

// Rules say nothing of what a machine comes to.
func TestRulesChangeNoWays(t *testing.T) {
	eachGoing(102, 60, func(r *rand.Rand, v *moves) {
		bare := impl.Mach{Decls: v.m.Decls}
		states, far := impl.Reach(v.m)
		others, farther := impl.Reach(bare)
		wantStates(t, "Reach", others, states)
		if !same(far, farther) {
			t.Errorf("%v: %v, and without rules %v", v.m, far, farther)
		}
		wantStates(t, "Stuck", impl.Stuck(bare), impl.Stuck(v.m))
		wantStates(t, "Walk", impl.Walk(bare, []int{1, 2, 3}), impl.Walk(v.m, []int{1, 2, 3}))
	})
}

// P33
func TestChecksTellTheFirstOfTheShortestWays(t *testing.T) {
	holds, long, several := 0, 0, 0
	eachGoing(103, 2000, func(r *rand.Rand, v *moves) {
		far := v.far()
		for i := range v.m.Rules {
			trace, ok := impl.Check(v.m, i)
			want := v.broken(i)
			if ok != (len(want) == 0) || !slices.EqualFunc(trace, v.statesAt(want), same) {
				t.Fatalf("%v, rule %d: %v %v, want %v", v.m, i, trace, ok, v.statesAt(want))
			}
			least, as := -1, 0
			for p, n := range far {
				if n < 0 || v.good[p][i] {
					continue
				}
				if least < 0 || n < least {
					least, as = n, 0
				}
				if n == least {
					as++
				}
			}
			wantCheckAsPromised(t, v.m, i, trace, ok, least)
			if ok {
				holds++
			}
			if least > 2 {
				long++
			}
			if as > 1 && least > 0 {
				several++
			}
		}
	})
	if holds < 100 || long < 100 || several < 100 {
		t.Errorf("%d rules hold, %d are broken far away, %d in several states as far", holds, long, several)
	}
}

// wantCheckAsPromised looks whether a way is one, as long as it must be, and breaks the rule in its last state alone.
func wantCheckAsPromised(t *testing.T, m impl.Mach, rule int, trace [][]int, ok bool, least int) {
	t.Helper()
	if ok != (least < 0) || len(trace) != least+1 {
		t.Fatalf("%v, rule %d: %v %v, and the nearest is %d far", m, rule, trace, ok, least)
	}
	if ok {
		return
	}
	if !impl.TraceOk(m, trace) {
		t.Fatalf("%v, rule %d: %v is no way", m, rule, trace)
	}
	for i, s := range trace {
		value, _ := impl.StateValue(m, s, m.Rules[rule].Exp)
		if (value == 0) != (i == len(trace)-1) {
			t.Fatalf("%v, rule %d: %d in %v of %v", m, rule, value, s, trace)
		}
	}
}

func TestCheckOfEdges(t *testing.T) {
	for _, c := range []struct {
		what string
		text string
		want string
	}{
		{"broken at first", "var a : 0..3; init 1; next a + 1; always p : a < 1;", "[[1]] false"},
		{"broken in one of those at first", "var a : 0..3; init 2, 1, 3; next a; always p : !(a = 2);", "[[2]] false"},
		{"broken in several at first", "var a : 0..3; init 3, 2, 1; next a; always p : a < 2;", "[[2]] false"},
		{"broken at first, and nearer in order later", "var a : 0..3; init 3; next a - 1; always p : 0 < a & a < 3;", "[[3]] false"},
		{"never so", "var a : bool; init true, false; next a; always p : false;", "[[0]] false"},
		{"always so", "var a : bool; init true, false; next !a; always p : true;", "[] true"},
		{"broken nowhere", "var a : 0..3; init 0; next a + 1; always p : a < 4;", "[] true"},
		{"broken only where it does not come to", "var a : 0..3; init 2; next a + 1; always p : 1 < a;", "[] true"},
		{"broken only ahead of where it begins", "var a : 0..3; init 2; next if a < 2 then 2 else 3; always p : 1 < a;", "[] true"},
		{"nothing to begin in", "var a : 0..3; init 4; next a; always p : false;", "[] true"},
		{"stuck at once, and so", "var a : 0..3; init 1; next a + 3; always p : a = 1;", "[] true"},
		{"stuck at once, and not so", "var a : 0..3; init 1; next a + 3; always p : a = 0;", "[[1]] false"},
		{"stuck ahead of where it is broken", "var a : 0..9; init 1; next if a < 4 then a + 1 else a + 9; always p : a < 5;", "[] true"},
		{"leads to itself ahead of it", "var a : 0..3; init 0; next a, a + 1; always p : a < 3;", "[[0] [1] [2] [3]] false"},
		{"in the state that it is stuck in", "var a : 0..3; init 0; next a + 1; always p : a < 3;", "[[0] [1] [2] [3]] false"},
		{"several as far away", "var a : 0..9; init 0; next a + 9, a + 3, a + 6; always p : a < 3;", "[[0] [3]] false"},
		// the first way ends in the state that is not the first of those as far away: 1 is ahead of 2, so 9 is come to ahead of 8
		{"the first way to the last state", "var a : 0..9; init 0; next if a = 0 then 1 else if a = 1 then 9 else 8, if a = 0 then 2 else if a = 1 then 9 else 8; always p : a < 8;", "[[0] [1] [9]] false"},
		// from 5 it is one step, from 0 two
		{"a later beginning that is nearer", "var a : 0..9; init 0, 5; next if a = 0 then 3 else 9; always p : a < 9;", "[[5] [9]] false"},
		{"two beginnings as near", "var a : 0..9; init 5, 3; next if a = 3 then 9 else 7; always p : a < 7;", "[[3] [9]] false"},
		{"several ways of one length", "var a : 0..5; init 0; next if a = 0 then 2 else 5, if a = 0 then 1 else 5; always p : a < 5;", "[[0] [1] [5]] false"},
		{"ways of several lengths", "var a : 0..5; init 0; next a + 1, a + 2; always p : a < 5;", "[[0] [1] [3] [5]] false"},
		// both to begin in come to 2, and only behind that is it broken
		{"ways that meet", "var a : 0..5; init 1, 0; next if a < 2 then 2 else a + 1; always p : a < 4;", "[[0] [2] [3] [4]] false"},
		// the first beginning leads to the later state, both to where it is broken
		{"the first beginning by the later state", "var a : 0..9; init 0, 1; next if a = 0 then 6 else if a = 1 then 5 else 9; always p : a < 9;", "[[0] [6] [9]] false"},
		{"two numbers, the first of them first", "var a : 0..1; init 0; next 1, 0; var b : 0..1; init 0; next 1, 0; always p : a = 0 & b = 0;", "[[0 0] [0 1]] false"},
		{"Low above 0", "var a : 3..5; init 4; next a + 1; var b : 7..9; init 7; next b + 1, b; always p : !(a = 5 & b = 7);", "[[4 7] [5 7]] false"},
	} {
		trace, ok := impl.Check(mustMach(t, c.text), 0)
		if got := fmt.Sprint(trace, ok); got != c.want {
			t.Errorf("%s: %s, want %s", c.what, got, c.want)
		}
	}
}

func TestCheckOfEachRule(t *testing.T) {
	m := mustMach(t, example)
	for i, want := range []string{"[[1 1] [3 0] [5 0]] false", "[[1 1]] false", "[] true"} {
		trace, ok := impl.Check(m, i)
		if got := fmt.Sprint(trace, ok); got != want {
			t.Errorf("rule %d: %s, want %s", i, got, want)
		}
	}
	full := mustMach(t, "var a : 0..9; init 0; next a + 1; always p : a < 1; always q : a < 2; always r : a < 10; always s : a < 4;")
	for i, want := range []int{2, 3, 0, 5} {
		trace, ok := impl.Check(full, i)
		if len(trace) != want || ok != (want == 0) {
			t.Errorf("rule %d: %v %v", i, trace, ok)
		}
	}
}

func TestCheckOfMostStates(t *testing.T) {
	m := mustMach(t, ring)
	trace, ok := impl.Check(m, 0)
	wantStates(t, "the longest way there can be", trace, allStates(m))
	if ok || !impl.TraceOk(m, trace) {
		t.Errorf("%v", ok)
	}
	trace, ok = impl.Check(m, 1)
	wantStates(t, "half of it", trace, allStates(m)[:251])
	if ok {
		t.Error("half of it")
	}
	if trace, ok = impl.Check(m, 2); len(trace) != 0 || !ok {
		t.Errorf("%v %v", trace, ok)
	}
	trace, ok = impl.Check(box(), 0)
	if got := fmt.Sprint(trace, ok); got != "[[0 0 0 0 0] [1 0 0 0 0] [2 0 0 0 0] [3 0 0 0 0] [4 0 0 0 1]] false" {
		t.Error(got)
	}
}

// P34
func TestWaysAreOnesAsFarAsTheyGo(t *testing.T) {
	fine, wrong := 0, 0
	eachGoing(104, 400, func(r *rand.Rand, v *moves) {
		picks := []int{}
		for range r.IntN(7) {
			picks = append(picks, r.IntN(100))
		}
		trace := v.statesAt(v.walk(picks))
		for n := range len(trace) + 1 {
			if got := impl.TraceOk(v.m, trace[:n]); got != (n > 0) {
				t.Fatalf("%v: %v of %v: %v", v.m, n, trace, got)
			}
		}
		if len(trace) == 0 {
			return
		}
		last := trace[len(trace)-1]
		again := slices.ContainsFunc(impl.StateSteps(v.m, last), func(s []int) bool { return same(s, last) })
		if got := impl.TraceOk(v.m, append(slices.Clone(trace), last)); got != again {
			t.Fatalf("%v: %v, the last once more: %v", v.m, trace, got)
		}
		all, _ := impl.Reach(v.m)
		for _, s := range trace {
			if !slices.ContainsFunc(all, func(o []int) bool { return same(o, s) }) {
				t.Fatalf("%v: %v is not of Reach", v.m, s)
			}
		}
		for range 10 {
			other := slices.Clone(trace)
			other[r.IntN(len(other))] = v.states[r.IntN(len(v.states))]
			want := v.isWay(other)
			if got := impl.TraceOk(v.m, other); got != want {
				t.Fatalf("%v: %v: %v", v.m, other, got)
			}
			if want {
				fine++
			} else {
				wrong++
			}
		}
	})
	if fine < 200 || wrong < 200 {
		t.Errorf("%d ways, %d others", fine, wrong)
	}
}

func TestWaysOfEdges(t *testing.T) {
	m := mustMach(t, example)
	for _, c := range []struct {
		what  string
		trace [][]int
		want  bool
	}{
		{"none", nil, false},
		{"the empty way", [][]int{}, false},
		{"one state", [][]int{{0, 1}}, true},
		{"the other one", [][]int{{1, 1}}, true},
		{"begins wrong", [][]int{{0, 0}}, false},
		{"begins wrong, where it comes to later", [][]int{{2, 0}, {4, 0}}, false},
		{"begins wrong, and goes on right", [][]int{{3, 1}, {5, 0}, {0, 1}}, false},
		{"right", [][]int{{1, 1}, {3, 1}, {5, 0}, {0, 1}, {2, 0}}, true},
		{"wrong at its end", [][]int{{1, 1}, {3, 1}, {5, 0}, {0, 1}, {1, 0}}, false},
		{"wrong within", [][]int{{1, 1}, {3, 1}, {4, 0}, {0, 1}, {2, 0}}, false},
		{"wrong behind the first", [][]int{{1, 1}, {2, 1}, {4, 0}, {0, 1}}, false},
		{"wrong only from one to the next", [][]int{{1, 1}, {3, 1}, {2, 0}, {4, 1}}, false},
		{"one twice", [][]int{{1, 1}, {1, 1}}, false},
		{"a state of nothing", [][]int{{1, 1}, {}}, false},
		{"nothing first", [][]int{nil, {1, 1}}, false},
		{"too short", [][]int{{1}}, false},
		{"too short at its end", [][]int{{1, 1}, {3}}, false},
		{"too long", [][]int{{1, 1, 0}}, false},
		{"too long within", [][]int{{1, 1}, {3, 1, 1}, {5, 0}}, false},
		{"below Low", [][]int{{-1, 1}}, false},
		{"past High", [][]int{{6, 1}}, false},
		{"a truth past 1", [][]int{{1, 2}}, false},
		{"a truth of 3, at the place of another state", [][]int{{0, 3}}, false},
		{"below Low at its end, at the place of another state", [][]int{{1, 1}, {4, -1}}, false},
		{"past High within", [][]int{{1, 1}, {2, 2}, {5, 0}}, false},
		{"the least and the greatest number", [][]int{{-1 << 63, 1<<63 - 1}}, false},
	} {
		if got := impl.TraceOk(m, c.trace); got != c.want {
			t.Errorf("%s: %v: %v", c.what, c.trace, got)
		}
	}
	for _, s := range wrongStates() {
		if impl.TraceOk(m, [][]int{s}) || impl.TraceOk(m, [][]int{{1, 1}, s}) || impl.TraceOk(m, [][]int{{1, 1}, s, {3, 1}}) {
			t.Errorf("%v in a way", s)
		}
	}
}

func TestWaysOfOtherMachines(t *testing.T) {
	nowhere := mustMach(t, "var a : 0..3; init 4; next a;")
	for n := -1; n < 5; n++ {
		if impl.TraceOk(nowhere, [][]int{{n}}) {
			t.Errorf("begins in %d", n)
		}
	}
	stays := mustMach(t, "var a : 0..3; init 2; next a;")
	if !impl.TraceOk(stays, [][]int{{2}, {2}, {2}}) || impl.TraceOk(stays, [][]int{{2}, {2}, {1}}) {
		t.Error("stays")
	}
	stuck := mustMach(t, "var a : 0..3; init 2; next a + 2;")
	if !impl.TraceOk(stuck, [][]int{{2}}) || impl.TraceOk(stuck, [][]int{{2}, {2}}) || impl.TraceOk(stuck, [][]int{{2}, {4}}) {
		t.Error("stuck")
	}
	// a way may be of any length
	m := mustMach(t, ring)
	trace := slices.Concat(allStates(m), allStates(m), allStates(m))
	if !impl.TraceOk(m, trace) || impl.TraceOk(m, append(trace, []int{1})) {
		t.Error("three times around")
	}
}

// P35
func TestStuckIsWhatNothingFollows(t *testing.T) {
	some, hidden := 0, 0
	eachGoing(105, 600, func(r *rand.Rand, v *moves) {
		want := v.statesAt(v.stuck())
		got := impl.Stuck(v.m)
		if !slices.EqualFunc(got, want, same) {
			t.Fatalf("%v: %v, want %v", v.m, got, want)
		}
		all, _ := impl.Reach(v.m)
		left := slices.DeleteFunc(all, func(s []int) bool { return len(impl.StateSteps(v.m, s)) > 0 })
		wantStates(t, "of Reach", got, left)
		if len(want) > 1 {
			some++
		}
		for p, next := range v.next {
			if len(next) == 0 && !slices.Contains(v.stuck(), p) {
				hidden++
			}
		}
	})
	if some < 20 || hidden < 20 {
		t.Errorf("%d machines are stuck in several states, %d states that lead nowhere are not come to", some, hidden)
	}
}

func TestStuckOfEdges(t *testing.T) {
	for _, c := range []struct {
		what string
		text string
		want string
	}{
		{"never", example, "[]"},
		{"at once", "var a : 0..3; init 2; next a + 2;", "[[2]]"},
		{"at once, in several", "var a : 0..3; init 3, 2; next a + 2;", "[[2] [3]]"},
		{"at the end", "var a : 0..3; init 0; next a + 1;", "[[3]]"},
		{"where it is not come to", "var a : 0..3; init 0; next if a < 2 then a else a + 2;", "[]"},
		{"nothing to begin in", "var a : 0..3; init 4; next a + 9;", "[]"},
		{"leads to itself", "var a : 0..3; init 3; next a;", "[]"},
		{"leads to itself, or on", "var a : 0..3; init 0; next if a < 3 then a else a + 1, a + 1;", "[[3]]"},
		{"one declaration is stuck", "var a : bool; init true; next a, !a; var b : 0..2; init 0; next b + 1;", "[[0 2] [1 2]]"},
		{"in order, not as they are found", "var a : 0..9; init 5; next if a = 5 then 9 else a + 10, if a = 5 then 0 else a + 10;", "[[0] [9]]"},
	} {
		if got := fmt.Sprint(impl.Stuck(mustMach(t, c.text))); got != c.want {
			t.Errorf("%s: %s, want %s", c.what, got, c.want)
		}
	}
	if got := impl.Stuck(mustMach(t, strings.Replace(ring, "else 0", "else 999", 1))); fmt.Sprint(got) != "[[499]]" {
		t.Errorf("%v", got)
	}
}

// drawPick draws numbers of all sorts.
func drawPick(r *rand.Rand) int {
	return []int{r.IntN(3), r.IntN(30), -r.IntN(3), -r.IntN(30), -1 << 63, 1<<63 - 1, int(r.Uint64())}[r.IntN(7)]
}

// P36
func TestWalksGoOnAsLongAsTheyCan(t *testing.T) {
	whole, short := 0, 0
	eachGoing(106, 1000, func(r *rand.Rand, v *moves) {
		picks := []int{}
		for range r.IntN(impl.StepMax + 1) {
			picks = append(picks, drawPick(r))
		}
		got := impl.Walk(v.m, picks)
		if want := v.statesAt(v.walk(picks)); !slices.EqualFunc(got, want, same) {
			t.Fatalf("%v, %v: %v, want %v", v.m, picks, got, want)
		}
		if impl.TraceOk(v.m, got) != (len(got) > 0) {
			t.Fatalf("%v, %v: %v is no way", v.m, picks, got)
		}
		switch {
		case len(got) == len(picks):
			whole++
		case len(got) == 0:
			if len(impl.StateInits(v.m)) > 0 {
				t.Fatalf("%v, %v: nothing", v.m, picks)
			}
		default:
			short++
			if len(impl.StateSteps(v.m, got[len(got)-1])) > 0 {
				t.Fatalf("%v, %v: ends in %v", v.m, picks, got)
			}
		}
	})
	if whole < 50 || short < 50 {
		t.Errorf("%d walks are whole, %d get stuck", whole, short)
	}
}

func TestWalksOfEdges(t *testing.T) {
	three := "var a : 0..9; init 7, 3, 5; next if a = 3 then 4 else 9, if a = 3 then 6 else 8;"
	for _, c := range []struct {
		what  string
		text  string
		picks []int
		want  string
	}{
		{"the example", example, []int{1, 0, 3, 7}, "[[1 1] [3 0] [5 1] [0 1]]"},
		{"below 0", example, []int{1, 0, 3, 7, -1}, "[[1 1] [3 0] [5 1] [0 1] [2 1]]"},
		{"no numbers", example, nil, "[]"},
		{"an empty list", example, []int{}, "[]"},
		{"the first", three, []int{0}, "[[3]]"},
		{"the last", three, []int{2}, "[[7]]"},
		{"one past", three, []int{3}, "[[3]]"},
		{"further past", three, []int{100}, "[[5]]"},
		{"one below", three, []int{-1}, "[[7]]"},
		{"two below", three, []int{-2}, "[[5]]"},
		{"as many below", three, []int{-3}, "[[3]]"},
		{"one more below", three, []int{-4}, "[[7]]"},
		// 1 less than 2 to the 63 is 1 more than a number of threes, and 2 to the 63 below is 2 less
		{"the greatest", three, []int{1<<63 - 1}, "[[5]]"},
		{"the least", three, []int{-1 << 63}, "[[5]]"},
		{"the least and the greatest of two", example, []int{-1 << 63, 1<<63 - 1, -1<<63 + 1}, "[[0 1] [2 1] [4 1]]"},
		{"of one", "var a : 0..3; init 2; next a;", []int{-1 << 63, 1<<63 - 1, -7, 7}, "[[2] [2] [2] [2]]"},
		{"gets stuck", "var a : 0..3; init 0; next a + 1;", []int{9, 9, 9, 9, 9, 9}, "[[0] [1] [2] [3]]"},
		{"gets stuck with its last number", "var a : 0..3; init 0; next a + 1;", []int{9, 9, 9, 9}, "[[0] [1] [2] [3]]"},
		{"ends ahead of where it would get stuck", "var a : 0..3; init 0; next a + 1;", []int{9, 9, 9}, "[[0] [1] [2]]"},
		{"stuck at once", "var a : 0..3; init 2; next a + 2;", []int{0, 0, 0}, "[[2]]"},
		{"nothing to begin in", "var a : 0..3; init 4; next 0;", []int{0, 1, 2}, "[]"},
		{"nothing to begin in, no numbers", "var a : 0..3; init 4; next 0;", nil, "[]"},
		{"how many there are changes", three, []int{0, 1, 1, 1}, "[[3] [6] [9] [9]]"},
		{"choices that are alike are one", "var a : 0..3; init 1, 1; next a, a, 3;", []int{1, 1, 2}, "[[1] [3] [3]]"},
	} {
		if got := fmt.Sprint(impl.Walk(mustMach(t, c.text), c.picks)); got != c.want {
			t.Errorf("%s: %s, want %s", c.what, got, c.want)
		}
	}
}

func TestWalksAtStepMax(t *testing.T) {
	m := mustMach(t, ring)
	wantStates(t, "just as many", impl.Walk(m, make([]int, impl.StepMax)), allStates(m)[:impl.StepMax])
	wantStates(t, "one less", impl.Walk(m, make([]int, impl.StepMax-1)), allStates(m)[:impl.StepMax-1])
	for _, many := range []int{impl.StepMax + 1, 100, 1000} {
		wantStates(t, "more", impl.Walk(m, make([]int, many)), nil)
	}
	// too many numbers are too many also of a machine that gets stuck ahead
	stuck := mustMach(t, "var a : 0..3; init 0; next a + 1;")
	wantStates(t, "stuck", impl.Walk(stuck, make([]int, impl.StepMax)), allStates(stuck))
	wantStates(t, "stuck, and more", impl.Walk(stuck, make([]int, impl.StepMax+1)), nil)
}

func TestWaysOfWrongInputs(t *testing.T) {
	for what, m := range wrongMachs() {
		s := []int{}
		for _, d := range m.Decls {
			s = append(s, d.Low)
		}
		states, far := impl.Reach(m)
		if len(states) != 0 || len(far) != 0 || len(impl.Stuck(m)) != 0 || len(impl.Walk(m, []int{0, 0})) != 0 || impl.TraceOk(m, [][]int{s}) || impl.TraceOk(m, nil) {
			t.Errorf("%s: %v %v", what, states, far)
		}
		for i := -1; i <= len(m.Rules); i++ {
			if trace, ok := impl.Check(m, i); len(trace) != 0 || ok {
				t.Errorf("%s, rule %d: %v %v", what, i, trace, ok)
			}
		}
	}
	for _, text := range []string{example, "var a : 0..3; init 0; next a;", "var a : 0..3; init 4; next a; always p : false;", "var a : 0..3; init 0; next a; always p : a = 1;", ring} {
		m := mustMach(t, text)
		for _, i := range wrongRules(len(m.Rules)) {
			if trace, ok := impl.Check(m, i); len(trace) != 0 || ok {
				t.Errorf("%s, rule %d: %v %v", text, i, trace, ok)
			}
		}
	}
}
