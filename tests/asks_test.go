package tests

import (
	"fmt"
	"math/rand/v2"
	"slices"
	"testing"

	"loop.example/registrar/impl"
)

// isText asks whether an expression is so.
func isText(t *testing.T, text string) impl.Ask {
	t.Helper()
	return is(mustExp(t, text))
}

// wantSo looks whether something is so of just the states of which it should be.
func wantSo(t *testing.T, v *moves, a impl.Ask, want []bool) {
	t.Helper()
	if got := impl.AskStates(v.m, a); !slices.EqualFunc(got, v.statesAt(placesOf(want)), same) {
		t.Fatalf("%v, %v: %v, want %v", v.m, a, got, v.statesAt(placesOf(want)))
	}
}

// soOf is of each state whether the program says that something is so of it.
func soOf(t *testing.T, v *moves, a impl.Ask) []bool {
	t.Helper()
	if !impl.AskOk(v.m, a) {
		t.Fatalf("%v may not be asked of %v", a, v.m)
	}
	so := make([]bool, len(v.states))
	for _, s := range impl.AskStates(v.m, a) {
		so[v.places[fmt.Sprint(s)]] = true
	}
	return so
}

// eachAsked calls a check with machines, and something that may be asked of each, small enough to be asked within more.
func eachAsked(seed uint64, times int, check func(r *rand.Rand, v *moves, a impl.Ask)) {
	eachGoing(seed, times, func(r *rand.Rand, v *moves) {
		for {
			if a := drawAsked(r, v.m); askNodes(a) <= 6 && askDepth(a) <= 3 {
				check(r, v, a)
				return
			}
		}
	})
}

// What is asked is so of just the states of which it is by looking for ways.
func TestAsksByHand(t *testing.T) {
	some, all, none := 0, 0, 0
	kinds := map[int]int{}
	eachGoing(181, 900, func(r *rand.Rand, v *moves) {
		for range 4 {
			a := drawAsked(r, v.m)
			if !impl.AskOk(v.m, a) || !askOkByHand(v.m, a) {
				t.Fatalf("%v may not be asked of %v", a, v.m)
			}
			want := v.so(a)
			wantSo(t, v, a, want)
			kinds[a.Kind]++
			switch len(placesOf(want)) {
			case 0:
				none++
			case len(want):
				all++
			default:
				some++
			}
		}
	})
	if some < 800 || all < 100 || none < 100 {
		t.Errorf("%d are so of some states, %d of all, %d of none", some, all, none)
	}
	for kind := range askKids {
		if kinds[kind] < 100 {
			t.Errorf("kind %d was asked %d times", kind, kinds[kind])
		}
	}
}

// P57
func TestAskedOrItsOpposite(t *testing.T) {
	eachAsked(182, 600, func(r *rand.Rand, v *moves, a impl.Ask) {
		so := soOf(t, v, a)
		isNot := soOf(t, v, ask(impl.AskNot, a))
		for p := range so {
			if so[p] == isNot[p] {
				t.Fatalf("%v, %v: %v and %v of %v", v.m, a, so[p], isNot[p], v.states[p])
			}
		}
		wantSo(t, v, ask(impl.AskNot, ask(impl.AskNot, a)), so)
		b := is(drawFitting(r, v.m.Decls, 2))
		other := soOf(t, v, b)
		wantSo(t, v, ask(impl.AskAnd, a, b), between("&", so, other))
		wantSo(t, v, ask(impl.AskAnd, b, a), between("&", so, other))
		wantSo(t, v, orOf(a, b), between("|", so, other))
	})
}

// P58
func TestAskedNext(t *testing.T) {
	eachAsked(183, 600, func(r *rand.Rand, v *moves, a impl.Ask) {
		so := soOf(t, v, a)
		want := make([]bool, len(so))
		for p, s := range v.states {
			for _, next := range impl.StateSteps(v.m, s) {
				want[p] = want[p] || so[impl.StateNum(v.m, next)]
			}
		}
		wantSo(t, v, ask(impl.AskNext, a), want)
	})
}

// P59
func TestAskedOnce(t *testing.T) {
	later := 0
	eachAsked(184, 600, func(r *rand.Rand, v *moves, a impl.Ask) {
		once := ask(impl.AskOnce, a)
		so := soOf(t, v, once)
		now := soOf(t, v, a)
		next := soOf(t, v, ask(impl.AskNext, once))
		if want := between("|", now, next); !slices.Equal(so, want) {
			t.Fatalf("%v, %v: %v, want %v", v.m, a, so, want)
		}
		wantSo(t, v, ask(impl.AskOnce, once), so)
		wantSo(t, v, orOf(a, ask(impl.AskNext, once)), so)
		if !slices.Equal(so, between("|", now, soOf(t, v, ask(impl.AskNext, a)))) {
			later++
		}
	})
	if later < 50 {
		t.Errorf("%d are so only later than next", later)
	}
}

// P60
func TestAskedToStay(t *testing.T) {
	less, ends := 0, 0
	eachAsked(185, 2500, func(r *rand.Rand, v *moves, a impl.Ask) {
		stay := ask(impl.AskStay, a)
		so := soOf(t, v, stay)
		now := soOf(t, v, a)
		next := soOf(t, v, ask(impl.AskNext, stay))
		for p, s := range v.states {
			isEnd := len(impl.StateSteps(v.m, s)) == 0
			if want := now[p] && (isEnd || next[p]); so[p] != want {
				t.Fatalf("%v, %v: %v of %v", v.m, a, so[p], s)
			}
			if isEnd && so[p] {
				ends++
			}
		}
		wantSo(t, v, ask(impl.AskStay, stay), so)
		if !slices.Equal(so, now) && len(placesOf(so)) > 0 {
			less++
		}
		// what stays so from each state on is the opposite of what is once not so
		never := soOf(t, v, ask(impl.AskNot, ask(impl.AskOnce, ask(impl.AskNot, a))))
		if both := between("&", never, so); !slices.Equal(both, never) {
			t.Fatalf("%v, %v: %v on all ways, %v on one", v.m, a, never, so)
		}
	})
	if less < 50 || ends < 50 {
		t.Errorf("%d stay so of fewer states, %d where ways end", less, ends)
	}
}

// P61
func TestAskedUntil(t *testing.T) {
	within := 0
	eachAsked(186, 900, func(r *rand.Rand, v *moves, second impl.Ask) {
		first := is(drawFitting(r, v.m.Decls, 2))
		if r.IntN(2) == 0 {
			first = is(drawSeldom(r, v.m.Decls))
		}
		until := ask(impl.AskUntil, first, second)
		so := soOf(t, v, until)
		x, y, next := soOf(t, v, first), soOf(t, v, second), soOf(t, v, ask(impl.AskNext, until))
		if want := between("|", y, between("&", x, next)); !slices.Equal(so, want) {
			t.Fatalf("%v, %v: %v, want %v", v.m, until, so, want)
		}
		once := soOf(t, v, ask(impl.AskOnce, second))
		wantSo(t, v, ask(impl.AskUntil, is(yes()), second), once)
		wantSo(t, v, ask(impl.AskUntil, is(no()), second), y)
		if !slices.Equal(so, once) && !slices.Equal(so, y) {
			within++
		}
	})
	if within < 50 {
		t.Errorf("%d are so of more than the second, and of less than once", within)
	}
}

// P62
func TestAskedOfAllBeginnings(t *testing.T) {
	fine, not := 0, 0
	eachAsked(187, 900, func(r *rand.Rand, v *moves, a impl.Ask) {
		states := impl.AskStates(v.m, a)
		want := true
		for _, s := range impl.StateInits(v.m) {
			want = want && slices.ContainsFunc(states, func(o []int) bool { return same(o, s) })
		}
		if got := impl.AskHolds(v.m, a); got != want {
			t.Fatalf("%v, %v: %v", v.m, a, got)
		}
		if want {
			fine++
		} else {
			not++
		}
	})
	if fine < 100 || not < 100 {
		t.Errorf("%d hold, %d do not", fine, not)
	}
}

// P63
func TestRulesAndWhatIsAsked(t *testing.T) {
	fine, broken := 0, 0
	eachGoing(188, 900, func(r *rand.Rand, v *moves) {
		for i, o := range v.m.Rules {
			_, ok := impl.Check(v.m, i)
			never := ask(impl.AskNot, ask(impl.AskOnce, ask(impl.AskNot, is(o.Exp))))
			if got := impl.AskHolds(v.m, never); got != ok {
				t.Fatalf("%v, rule %d: %v, and Check tells %v", v.m, i, got, ok)
			}
			if e := not(o.Exp); expOkByHand(e) {
				if got := impl.AskHolds(v.m, ask(impl.AskNot, ask(impl.AskOnce, is(e)))); got != ok {
					t.Fatalf("%v, rule %d: %v, and Check tells %v", v.m, i, got, ok)
				}
			}
			if ok {
				fine++
			} else {
				broken++
			}
		}
	})
	if fine < 200 || broken < 200 {
		t.Errorf("%d rules hold, %d are broken", fine, broken)
	}
}

// P64
func TestWaysToWhereItIsSo(t *testing.T) {
	long, none := 0, 0
	eachAsked(189, 400, func(r *rand.Rand, v *moves, a impl.Ask) {
		so := soOf(t, v, a)
		once := soOf(t, v, ask(impl.AskOnce, a))
		for p, s := range v.states {
			way, ok := impl.AskWay(v.m, s, a)
			if want := v.shortest([]int{p}, func(q int) bool { return so[q] }); ok != (len(want) > 0) || !slices.EqualFunc(way, v.statesAt(want), same) {
				t.Fatalf("%v, %v from %v: %v %v, want %v", v.m, a, s, way, ok, v.statesAt(want))
			}
			if ok != once[p] {
				t.Fatalf("%v, %v from %v: %v, and once %v", v.m, a, s, ok, once[p])
			}
			if !ok {
				none++
				continue
			}
			wantWayAsPromised(t, v, s, way, so)
			if len(way) > 3 {
				long++
			}
		}
	})
	if long < 100 || none < 100 {
		t.Errorf("%d ways are long, %d states have none", long, none)
	}
}

// wantWayAsPromised looks whether states lead from one to the next, and only of the last it is so.
func wantWayAsPromised(t *testing.T, v *moves, s []int, way [][]int, so []bool) {
	t.Helper()
	if !same(way[0], s) {
		t.Fatalf("%v: %v begins not in %v", v.m, way, s)
	}
	for i, at := range way {
		if so[impl.StateNum(v.m, at)] != (i == len(way)-1) {
			t.Fatalf("%v: %v in %v", v.m, at, way)
		}
		if i > 0 && !slices.ContainsFunc(impl.StateSteps(v.m, way[i-1]), func(o []int) bool { return same(o, at) }) {
			t.Fatalf("%v: nothing leads to %v in %v", v.m, at, way)
		}
	}
}

// P65
func TestAskedOfMoreIsSoOfMore(t *testing.T) {
	more := 0
	eachAsked(190, 600, func(r *rand.Rand, v *moves, a impl.Ask) {
		for _, o := range v.m.Rules {
			wider := orOf(a, is(o.Exp))
			for _, kind := range []int{impl.AskNext, impl.AskOnce, impl.AskStay} {
				so := soOf(t, v, ask(kind, a))
				of := soOf(t, v, ask(kind, wider))
				if !slices.Equal(between("|", so, of), of) {
					t.Fatalf("%v, kind %d of %v: %v, and of more %v", v.m, kind, a, so, of)
				}
				if !slices.Equal(so, of) {
					more++
				}
			}
		}
	})
	if more < 200 {
		t.Errorf("%d are so of more", more)
	}
}

func TestAsksOfEdges(t *testing.T) {
	const stuck = "var a : 0..4; init 0; next a + 1;"
	const loop = "var a : 0..4; init 0; next if a = 2 then 2 else a + 1, a + 1;"
	const round = "var a : 0..5; init 0; next if a < 3 then a + 1 else if a = 3 then 1 else a, if a = 3 then 4 else if a = 5 then 0 else 9;"
	for _, c := range []struct {
		what string
		text string
		a    impl.Ask
		want string
	}{
		{"always", stuck, isText(t, "true"), "[[0] [1] [2] [3] [4]]"},
		{"never", stuck, isText(t, "false"), "[]"},
		{"not always", stuck, ask(impl.AskNot, isText(t, "true")), "[]"},
		{"both", stuck, ask(impl.AskAnd, isText(t, "a < 3"), isText(t, "1 < a")), "[[2]]"},
		{"both of never", stuck, ask(impl.AskAnd, isText(t, "a < 3"), isText(t, "false")), "[]"},
		{"next, with a state that leads nowhere", stuck, ask(impl.AskNext, isText(t, "true")), "[[0] [1] [2] [3]]"},
		{"next of the first", stuck, ask(impl.AskNext, isText(t, "a = 0")), "[]"},
		{"next of next", stuck, ask(impl.AskNext, ask(impl.AskNext, isText(t, "a = 4"))), "[[2]]"},
		{"not next", stuck, ask(impl.AskNext, ask(impl.AskNot, isText(t, "a = 2"))), "[[0] [2] [3]]"},
		{"none of the next", stuck, ask(impl.AskNot, ask(impl.AskNext, isText(t, "a = 2"))), "[[0] [2] [3] [4]]"},
		{"next of what leads to itself", loop, ask(impl.AskNext, isText(t, "a = 2")), "[[1] [2]]"},
		{"once, of a way that ends", stuck, ask(impl.AskOnce, isText(t, "a = 2")), "[[0] [1] [2]]"},
		{"once, of never", stuck, ask(impl.AskOnce, isText(t, "false")), "[]"},
		{"once, where it leads nowhere", stuck, ask(impl.AskOnce, isText(t, "a = 4")), "[[0] [1] [2] [3] [4]]"},
		{"once, around", round, ask(impl.AskOnce, isText(t, "a = 2")), "[[0] [1] [2] [3] [5]]"},
		{"once, from where it is not come to", round, ask(impl.AskOnce, isText(t, "a = 0")), "[[0] [5]]"},
		{"stays, on a way that ends", stuck, ask(impl.AskStay, isText(t, "1 < a")), "[[2] [3] [4]]"},
		{"stays, on all ways", stuck, ask(impl.AskStay, isText(t, "true")), "[[0] [1] [2] [3] [4]]"},
		{"stays, but not to the end", stuck, ask(impl.AskStay, isText(t, "a < 4")), "[]"},
		{"stays, at the end alone", stuck, ask(impl.AskStay, isText(t, "a = 4")), "[[4]]"},
		{"stays, in a state that leads to itself", loop, ask(impl.AskStay, isText(t, "a < 3")), "[[0] [1] [2]]"},
		{"stays, in that state alone", loop, ask(impl.AskStay, isText(t, "a = 2")), "[[2]]"},
		{"stays, not in one that must go on", loop, ask(impl.AskStay, isText(t, "a = 1 | a = 3")), "[]"},
		{"stays, not behind one that ends elsewhere", loop, ask(impl.AskStay, isText(t, "a = 3")), "[]"},
		{"stays, around", round, ask(impl.AskStay, isText(t, "a < 4")), "[[0] [1] [2] [3]]"},
		{"stays, around and nowhere else", round, ask(impl.AskStay, isText(t, "0 < a & a < 4")), "[[1] [2] [3]]"},
		{"stays, not around", round, ask(impl.AskStay, isText(t, "a < 3")), "[]"},
		{"stays, of never", round, ask(impl.AskStay, isText(t, "false")), "[]"},
		{"until, with none ahead", stuck, ask(impl.AskUntil, isText(t, "false"), isText(t, "a = 2")), "[[2]]"},
		{"until, of a way that ends", stuck, ask(impl.AskUntil, isText(t, "0 < a"), isText(t, "a = 3")), "[[1] [2] [3]]"},
		{"until, the first not needed of the last", stuck, ask(impl.AskUntil, isText(t, "a < 3"), isText(t, "a = 3")), "[[0] [1] [2] [3]]"},
		{"until, with a gap", stuck, ask(impl.AskUntil, isText(t, "!(a = 1)"), isText(t, "a = 3")), "[[2] [3]]"},
		{"until, of never", stuck, ask(impl.AskUntil, isText(t, "true"), isText(t, "false")), "[]"},
		{"until never comes, while the first stays", round, ask(impl.AskUntil, isText(t, "0 < a"), isText(t, "a = 0")), "[[0] [5]]"},
		{"until, around", round, ask(impl.AskUntil, isText(t, "0 < a & a < 4"), isText(t, "a = 4")), "[[1] [2] [3] [4]]"},
		{"a state that only leads to itself", round, ask(impl.AskStay, isText(t, "a = 4")), "[[4]]"},
		{"within each other", round, ask(impl.AskStay, ask(impl.AskOnce, isText(t, "a = 0"))), "[[5]]"},
		{"from each state there is a way to the end", round, ask(impl.AskNot, ask(impl.AskOnce, ask(impl.AskNot, ask(impl.AskOnce, isText(t, "a = 4"))))), "[[0] [1] [2] [3] [4] [5]]"},
		{"in order, of two numbers", "var a : 3..4; init 3; next a; var b : bool; init true; next !b; always p : b;", ask(impl.AskNext, isText(t, "b")), "[[3 0] [4 0]]"},
		{"a machine that begins nowhere", "var a : 0..2; init 3; next a + 1;", ask(impl.AskOnce, isText(t, "a = 1")), "[[0] [1]]"},
		{"one state in all", "var a : 7..7; init 7; next a;", ask(impl.AskStay, isText(t, "a = 7")), "[[7]]"},
		{"one state in all, which leads nowhere", "var a : 7..7; init 7; next a + 1;", ask(impl.AskStay, isText(t, "a = 7")), "[[7]]"},
		{"one state in all, which leads nowhere, next", "var a : 7..7; init 7; next a + 1;", ask(impl.AskNext, isText(t, "a = 7")), "[]"},
	} {
		m := mustMach(t, c.text)
		if !impl.AskOk(m, c.a) {
			t.Errorf("%s: may not be asked", c.what)
		}
		if got := fmt.Sprint(impl.AskStates(m, c.a)); got != c.want {
			t.Errorf("%s: %s, want %s", c.what, got, c.want)
		}
	}
}

func TestHoldingOfEdges(t *testing.T) {
	several := "var a : 0..4; init 1, 3; next a + 1;"
	nowhere := "var a : 0..4; init 5; next a;"
	for _, c := range []struct {
		what string
		text string
		a    impl.Ask
		want bool
	}{
		{"of both", several, isText(t, "a = 1 | a = 3"), true},
		{"of the first alone", several, isText(t, "a = 1"), false},
		{"of the second alone", several, isText(t, "a = 3"), false},
		{"of none", several, isText(t, "a = 2"), false},
		{"of others only, later", several, ask(impl.AskOnce, isText(t, "a = 4")), true},
		{"never, and nothing to begin in", nowhere, isText(t, "false"), true},
		{"a number, and nothing to begin in", nowhere, isText(t, "a"), false},
		{"no kid, and nothing to begin in", nowhere, ask(impl.AskNot), false},
	} {
		if got := impl.AskHolds(mustMach(t, c.text), c.a); got != c.want {
			t.Errorf("%s: %v", c.what, got)
		}
	}
}

func TestAskedWaysOfEdges(t *testing.T) {
	fork := "var a : 0..9; init 9; next if a = 0 then 2 else if a < 3 then 5 else if a = 5 then 0 else a, if a = 0 then 1 else if a < 3 then 6 else if a = 5 then 7 else a;"
	for _, c := range []struct {
		what string
		text string
		from []int
		a    impl.Ask
		want string
	}{
		{"so already", fork, []int{5}, isText(t, "a = 5"), "[[5]] true"},
		{"so already, and next too", fork, []int{0}, isText(t, "true"), "[[0]] true"},
		{"next", fork, []int{1}, isText(t, "a = 6"), "[[1] [6]] true"},
		{"several shortest ways", fork, []int{0}, isText(t, "a = 6"), "[[0] [1] [6]] true"},
		{"several states as near", fork, []int{0}, isText(t, "4 < a"), "[[0] [1] [5]] true"},
		{"several nearest", fork, []int{0}, isText(t, "0 < a & a < 3"), "[[0] [1]] true"},
		{"around to where it began is none ahead", fork, []int{1}, isText(t, "a = 0"), "[[1] [5] [0]] true"},
		{"a longer one", fork, []int{0}, isText(t, "a = 7"), "[[0] [1] [5] [7]] true"},
		{"none", fork, []int{0}, isText(t, "a = 9"), "[] false"},
		{"never", fork, []int{0}, isText(t, "false"), "[] false"},
		{"from where it leads to itself alone", fork, []int{6}, isText(t, "a = 7"), "[] false"},
		{"from where it is not come to", fork, []int{8}, isText(t, "a = 8"), "[[8]] true"},
		{"from where it leads nowhere", "var a : 0..3; init 0; next a + 1;", []int{3}, isText(t, "a = 0"), "[] false"},
		{"to where it leads nowhere", "var a : 0..3; init 0; next a + 1;", []int{0}, ask(impl.AskNot, ask(impl.AskNext, isText(t, "true"))), "[[0] [1] [2] [3]] true"},
		{"to where it stays", "var a : 0..4; init 0; next if a = 2 then 2 else a + 1, a + 1;", []int{0}, ask(impl.AskStay, isText(t, "1 < a")), "[[0] [1] [2]] true"},
		// 1 is ahead of 2, so the way by 1 is the first, though it ends in the later state
		{"the first way to the later state", "var a : 0..9; init 0; next if a = 0 then 1 else if a = 1 then 9 else 8, if a = 0 then 2 else if a = 1 then 9 else 8;", []int{0}, isText(t, "7 < a"), "[[0] [1] [9]] true"},
	} {
		way, ok := impl.AskWay(mustMach(t, c.text), c.from, c.a)
		if got := fmt.Sprint(way, ok); got != c.want {
			t.Errorf("%s: %s, want %s", c.what, got, c.want)
		}
	}
	m := mustMach(t, example)
	for _, s := range wrongStates() {
		if way, ok := impl.AskWay(m, s, is(yes())); len(way) != 0 || ok {
			t.Errorf("from %v: %v %v", s, way, ok)
		}
	}
}

func TestAsksAtLimits(t *testing.T) {
	m := mustMach(t, example)
	last := isText(t, "x < 3")
	for nodes := 1; nodes <= 24; nodes++ {
		a := askSized(nodes, last)
		if got := impl.AskOk(m, a); got != (nodes <= 20) || askNodes(a) != nodes || askDepth(a) > 8 {
			t.Errorf("%d nodes: %v", nodes, got)
		}
	}
	for kind, many := range askKids {
		for place := range many {
			for deep := 1; deep <= 10; deep++ {
				a := askDeep(deep, kind, place, last)
				if got := impl.AskOk(m, a); got != (deep <= 8) || askDepth(a) != deep || askNodes(a) > 20 {
					t.Errorf("kind %d, %d deep at %d: %v", kind, deep, place, got)
				}
			}
		}
	}
	// expressions have limits of their own, and their nodes do not count here
	for _, c := range []struct {
		e    impl.Exp
		want bool
	}{{sized(60), true}, {sized(61), false}, {deepAt(12, impl.ExpIf, 1), true}, {deepAt(13, impl.ExpIf, 1), false}} {
		if got := impl.AskOk(m, is(c.e)); got != c.want {
			t.Errorf("%d nodes: %v", nodesIn(c.e), got)
		}
		if got := impl.AskOk(m, askSized(20, is(c.e))); got != c.want {
			t.Errorf("%d nodes, in each of many: %v", nodesIn(c.e), got)
		}
	}
}

func TestEachKindMayBeAsked(t *testing.T) {
	m := mustMach(t, example)
	last := isText(t, "up & x < 3")
	of := func(kind int, kid impl.Ask) impl.Ask {
		if kind == impl.AskIs {
			return last
		}
		return ask(kind, slices.Repeat([]impl.Ask{kid}, askKids[kind])...)
	}
	for outer := range askKids {
		for inner := range askKids {
			a := of(outer, of(inner, last))
			if !impl.AskOk(m, a) {
				t.Errorf("%v may not be asked", a)
			}
			v := movesOf(m)
			wantSo(t, v, a, v.so(a))
		}
	}
	// no Kids, and an empty list of them, are the same
	empty := last
	empty.Kids = []impl.Ask{}
	plain := ask(impl.AskNot, empty)
	plain.Exp.Kids = []impl.Exp{}
	if !impl.AskOk(m, empty) || !impl.AskOk(m, plain) {
		t.Error("an empty list is asked")
	}
}

func TestWhatMayNotBeAsked(t *testing.T) {
	m := mustMach(t, example)
	nowhere := mustMach(t, "var x : 0..5; init 9; next x; var up : bool; init true; next up; always low : x < 5;")
	for what, a := range wrongAsks() {
		for _, asked := range []impl.Ask{a, ask(impl.AskNot, a), ask(impl.AskAnd, is(yes()), a), ask(impl.AskUntil, a, is(yes()))} {
			if impl.AskOk(m, asked) {
				t.Errorf("%s may be asked", what)
			}
			if states := impl.AskStates(m, asked); len(states) != 0 {
				t.Errorf("%s: %v", what, states)
			}
			if impl.AskHolds(m, asked) || impl.AskHolds(nowhere, asked) {
				t.Errorf("%s holds", what)
			}
			if way, ok := impl.AskWay(m, []int{0, 0}, asked); len(way) != 0 || ok {
				t.Errorf("%s: %v %v", what, way, ok)
			}
		}
	}
	for what, e := range wrongExps() {
		a := is(e)
		if impl.AskOk(m, a) || len(impl.AskStates(m, a)) != 0 || impl.AskHolds(m, a) || impl.AskHolds(nowhere, a) {
			t.Errorf("%s is asked", what)
		}
	}
}

// What is drawn with something wrong in it may be asked, or not, as by hand.
func TestDrawnAsks(t *testing.T) {
	fine, wrong := 0, 0
	eachGoing(191, 1500, func(r *rand.Rand, v *moves) {
		a := drawAsk(r, func() impl.Exp { return drawOf(r, v.m.Decls, 2, 2) }, 9, 24)
		at := &a
		for len(at.Kids) > 0 && r.IntN(4) > 0 {
			at = &at.Kids[r.IntN(len(at.Kids))]
		}
		switch r.IntN(8) {
		case 0:
			at.Kind = r.IntN(10) - 1
		case 1:
			at.Exp = drawExp(r, 2)
		case 2:
			at.Kids = append(at.Kids, is(yes()))
		case 3:
			at.Kids = at.Kids[:len(at.Kids)/2]
		case 4:
			at.Exp = impl.Exp{}
		}
		want := askOkByHand(v.m, a)
		if got := impl.AskOk(v.m, a); got != want {
			t.Fatalf("%v, %v: %v", v.m, a, got)
		}
		if want {
			fine++
			wantSo(t, v, a, v.so(a))
			return
		}
		wrong++
		if way, ok := impl.AskWay(v.m, v.states[0], a); len(impl.AskStates(v.m, a)) != 0 || impl.AskHolds(v.m, a) || len(way) != 0 || ok {
			t.Fatalf("%v, %v is answered", v.m, a)
		}
	})
	if fine < 300 || wrong < 300 {
		t.Errorf("%d may be asked, %d may not", fine, wrong)
	}
}

func TestAsksOfWrongMachines(t *testing.T) {
	for what, m := range wrongMachs() {
		s := []int{}
		for _, d := range m.Decls {
			s = append(s, d.Low)
		}
		for _, a := range []impl.Ask{is(yes()), is(no()), ask(impl.AskNot, is(no())), ask(impl.AskStay, is(yes())), {}} {
			way, ok := impl.AskWay(m, s, a)
			if impl.AskOk(m, a) || len(impl.AskStates(m, a)) != 0 || impl.AskHolds(m, a) || len(way) != 0 || ok {
				t.Errorf("%s: %v is answered", what, a)
			}
		}
	}
}

func TestAsksOfMostStates(t *testing.T) {
	m := mustMach(t, ring)
	states := allStates(m)
	for _, c := range []struct {
		what string
		a    impl.Ask
		want [][]int
	}{
		{"next", ask(impl.AskNext, isText(t, "a = 0")), states[499:]},
		{"once, all around", ask(impl.AskOnce, isText(t, "a = 0")), states},
		{"stays, but for one", ask(impl.AskStay, isText(t, "a < 499")), nil},
		{"stays", ask(impl.AskStay, isText(t, "a < 500")), states},
		{"until", ask(impl.AskUntil, isText(t, "9 < a"), isText(t, "a = 490")), states[10:491]},
		{"as many nodes as may be", askSized(20, isText(t, "a < 500")), states},
		{"as deep as may be", askDeep(8, impl.AskUntil, 1, isText(t, "a = 3")), states[3:4]},
	} {
		wantStates(t, c.what, impl.AskStates(m, c.a), c.want)
	}
	way, ok := impl.AskWay(m, []int{0}, isText(t, "a = 499"))
	wantStates(t, "the longest way there can be", way, states)
	if !ok {
		t.Error("the longest way there can be")
	}
	way, ok = impl.AskWay(m, []int{1}, isText(t, "a = 0"))
	wantStates(t, "nearly all around", way, append(slices.Clone(states[1:]), states[0]))
	if !ok {
		t.Error("nearly all around")
	}
	b := box()
	so := ask(impl.AskNext, isText(t, "a = 4 & b = 4 & c = 4 & d = 1 & e = 1"))
	want := slices.DeleteFunc(allStates(b), func(s []int) bool { return s[0] < 3 || s[1] < 3 || s[2] < 3 })
	wantStates(t, "box", impl.AskStates(b, so), want)
}
