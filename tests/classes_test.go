package tests

import (
	"fmt"
	"math/rand/v2"
	"slices"
	"testing"

	"loop.example/registrar/impl"
)

// eachClassed calls a check with machines of which some states are alike, and some are not: rules are few, so that many states keep the same.
func eachClassed(seed uint64, times int, check func(r *rand.Rand, v *moves)) {
	eachGoing(seed, times, func(r *rand.Rand, v *moves) {
		if many := r.IntN(len(v.m.Rules) + 1); r.IntN(2) == 0 {
			v = movesOf(impl.Mach{Decls: v.m.Decls, Rules: v.m.Rules[:many]})
		}
		check(r, v)
	})
}

// ledTo is the classes that a state leads to, ascending, by what the program says.
func ledTo(m impl.Mach, s []int, classes []int) []int {
	led := []int{}
	for _, next := range impl.StateSteps(m, s) {
		led = append(led, classes[impl.StateNum(m, next)])
	}
	slices.Sort(led)
	return slices.Compact(led)
}

// goodIn is which rules are 1 in a state, by what the program says.
func goodIn(m impl.Mach, s []int) []int {
	good := []int{}
	for _, o := range m.Rules {
		value, _ := impl.StateValue(m, s, o.Exp)
		good = append(good, value)
	}
	return good
}

// P66
func TestStatesOfAClassAreAlike(t *testing.T) {
	one, each, some := 0, 0, 0
	eachClassed(201, 900, func(r *rand.Rand, v *moves) {
		classes := impl.Classes(v.m)
		if want := v.classes(); !same(classes, want) {
			t.Fatalf("%v: %v, want %v", v.m, classes, want)
		}
		first := map[int]int{}
		for p, class := range classes {
			if _, known := first[class]; !known {
				if class != len(first) {
					t.Fatalf("%v: class %d begins with %v: %v", v.m, class, v.states[p], classes)
				}
				first[class] = p
			}
			s, o := v.states[p], v.states[first[class]]
			if !same(goodIn(v.m, s), goodIn(v.m, o)) || !same(ledTo(v.m, s, classes), ledTo(v.m, o, classes)) {
				t.Fatalf("%v: %v and %v are of class %d", v.m, s, o, class)
			}
		}
		switch len(first) {
		case 1:
			one++
		case len(classes):
			each++
		default:
			some++
		}
	})
	if one < 50 || each < 20 || some < 200 {
		t.Errorf("%d machines have one class, %d as many as states, %d others", one, each, some)
	}
}

// P67
func TestNoTwoClassesCouldBeOne(t *testing.T) {
	tried := 0
	eachClassed(202, 300, func(r *rand.Rand, v *moves) {
		classes := impl.Classes(v.m)
		many := slices.Max(classes) + 1
		for x := range many {
			for y := range x {
				if many > 8 && r.IntN(many) > 2 {
					continue
				}
				tried++
				joined := []int{}
				for _, class := range classes {
					if class == x {
						class = y
					}
					joined = append(joined, class)
				}
				if !someDiffer(v, joined) {
					t.Fatalf("%v: %v, and %d and %d could be one", v.m, classes, x, y)
				}
			}
		}
	})
	if tried < 500 {
		t.Errorf("%d were tried", tried)
	}
}

// someDiffer says whether two states of one class keep other rules, or lead to other classes.
func someDiffer(v *moves, classes []int) bool {
	known := map[int]string{}
	for p, class := range classes {
		led := []int{}
		for _, q := range v.next[p] {
			led = append(led, classes[q])
		}
		slices.Sort(led)
		text := fmt.Sprint(v.good[p], slices.Compact(led))
		if other, found := known[class]; found && other != text {
			return true
		}
		known[class] = text
	}
	return false
}

// P68
func TestWhatIsAskedOfRulesIsSoOfWholeClasses(t *testing.T) {
	parts := 0
	eachGoing(203, 900, func(r *rand.Rand, v *moves) {
		if len(v.m.Rules) == 0 {
			return
		}
		v.m.Rules = v.m.Rules[:1+r.IntN(len(v.m.Rules))]
		classes := impl.Classes(v.m)
		for range 5 {
			a := drawOfRules(r, v.m)
			of := map[int]bool{}
			so := soOf(t, v, a)
			for p, class := range classes {
				if is, known := of[class]; known && is != so[p] {
					t.Fatalf("%v, %v: %v and %v in class %d", v.m, a, is, so[p], class)
				}
				of[class] = so[p]
			}
			if slices.Contains(so, true) && slices.Contains(so, false) && len(of) < len(classes) {
				parts++
			}
		}
	})
	if parts < 100 {
		t.Errorf("%d are so of some classes", parts)
	}
}

// P69
func TestClassesLeadWhereTheirStatesLead(t *testing.T) {
	several := 0
	eachClassed(204, 900, func(r *rand.Rand, v *moves) {
		classes := impl.Classes(v.m)
		steps := impl.ClassSteps(v.m)
		if want := v.classSteps(classes); !slices.EqualFunc(steps, want, same) {
			t.Fatalf("%v: %v, want %v", v.m, steps, want)
		}
		for p, s := range v.states {
			if led := ledTo(v.m, s, classes); !same(led, steps[classes[p]]) {
				t.Fatalf("%v: %v leads to %v, its class to %v", v.m, s, led, steps[classes[p]])
			}
		}
		if slices.ContainsFunc(steps, func(to []int) bool { return len(to) > 1 }) {
			several++
		}
	})
	if several < 100 {
		t.Errorf("%d have a class that leads to several", several)
	}
}

func TestClassesOfEdges(t *testing.T) {
	for _, c := range []struct {
		what string
		text string
		want string
	}{
		{"one state", "var a : 7..7; init 7; next a;", "[0] [[0]]"},
		{"one state, which leads nowhere", "var a : 7..7; init 7; next a + 1;", "[0] [[]]"},
		{"no rules", "var a : 0..3; init 0; next if a < 3 then a + 1 else 0;", "[0 0 0 0] [[0]]"},
		{"no rules, and all lead nowhere", "var a : 0..3; init 0; next a + 4;", "[0 0 0 0] [[]]"},
		{"no rules, and the last leads nowhere", "var a : 0..3; init 0; next a + 1;", "[0 1 2 3] [[1] [2] [3] []]"},
		{"no rules, and the first leads nowhere", "var a : 0..3; init 0; next if a = 0 then 9 else a - 1;", "[0 1 2 3] [[] [0] [1] [2]]"},
		{"rules that say nothing", "var a : 0..3; init 0; next if a < 3 then a + 1 else 0; always p : true; always q : false;", "[0 0 0 0] [[0]]"},
		{"a rule that parts them", "var a : 0..3; init 0; next a; always p : a < 2;", "[0 0 1 1] [[0] [1]]"},
		{"two rules that part them", "var a : 0..3; init 0; next a; always p : a < 2; always q : a = 1 | a = 3;", "[0 1 2 3] [[0] [1] [2] [3]]"},
		{"by their first states", "var a : 0..3; init 0; next a; always p : a = 1 | a = 3;", "[0 1 0 1] [[0] [1]]"},
		{"parted by where they lead", "var a : 0..3; init 0; next if a < 3 then a + 1 else 3; always p : a < 3;", "[0 1 2 3] [[1] [2] [3] [3]]"},
		{"parted one step away", "var a : 0..3; init 0; next if a = 1 then 3 else 2; always p : a < 3;", "[0 1 0 2] [[0] [2] [0]]"},
		// 0 and 2 are alike only if 1 and 3 are, to which they lead, and those only if 0 and 2 are
		{"alike only if others are", "var a : 0..3; init 0; next if a = 0 then 1 else if a = 1 then 0 else if a = 2 then 3 else 2; always p : a = 0 | a = 2;", "[0 1 0 1] [[1] [0]]"},
		{"alike to what they lead to", "var a : 0..3; init 0; next if a = 0 then 1 else if a = 1 then 0 else a;", "[0 0 0 0] [[0]]"},
		{"several steps like one", "var a : 0..3; init 0; next if a = 0 then 1 else if a = 1 then 1 else 3, if a = 0 then 3 else 1; always p : a = 0 | a = 2;", "[0 1 0 1] [[1] [1]]"},
		{"one step more, to another class", "var a : 0..3; init 0; next if a = 0 then 2 else 3, if a = 0 then 3 else 9; always p : a < 3;", "[0 1 1 2] [[1 2] [2] [2]]"},
		{"states that nothing leads to", "var a : 0..3; init 0; next 0; always p : a < 2;", "[0 0 1 1] [[0] [0]]"},
		{"nothing to begin in", "var a : 0..2; init 5; next a + 1; always p : a = 0;", "[0 1 2] [[1] [2] []]"},
		{"where it begins says nothing", "var a : 0..1; init 1; next a;", "[0 0] [[0]]"},
		{"one leads nowhere, one to itself", "var a : 0..1; init 0; next if a = 0 then 0 else 9;", "[0 1] [[0] []]"},
		{"ends that are alike", "var a : 0..3; init 0; next if a = 0 then 2 else if a = 1 then 3 else 9; always p : a < 2;", "[0 0 1 1] [[1] []]"},
		{"ends that are not", "var a : 0..3; init 0; next if a = 0 then 2 else if a = 1 then 3 else 9; always p : a < 3;", "[0 1 2 3] [[2] [3] [] []]"},
		{"two numbers, of which one says nothing", "var a : 0..1; init 0; next 1 - a; var b : 3..4; init 3; next b; always p : a = 0;", "[0 0 1 1] [[1] [0]]"},
		{"two numbers, of which the first says nothing", "var a : 0..1; init 0; next 1 - a; var b : bool; init true; next !b; always p : b;", "[0 1 0 1] [[1] [0]]"},
	} {
		m := mustMach(t, c.text)
		if got := fmt.Sprint(impl.Classes(m), impl.ClassSteps(m)); got != c.want {
			t.Errorf("%s: %s, want %s", c.what, got, c.want)
		}
	}
}

func TestClassesOfMostStates(t *testing.T) {
	// each state is as many steps away from where a rule is 0 as no other is
	m := mustMach(t, ring)
	classes, steps := impl.Classes(m), impl.ClassSteps(m)
	if len(classes) != impl.StateMax || len(steps) != impl.StateMax {
		t.Fatalf("%d states, %d classes", len(classes), len(steps))
	}
	for p, class := range classes {
		if class != p || !same(steps[p], []int{(p + 1) % 500}) {
			t.Fatalf("%d is of class %d, which leads to %v", p, class, steps[p])
		}
	}
	// without rules nothing tells them apart
	m.Rules = nil
	if classes, steps = impl.Classes(m), impl.ClassSteps(m); !same(classes, make([]int, 500)) || !slices.EqualFunc(steps, [][]int{{0}}, same) {
		t.Errorf("%v %v", classes, steps)
	}
	// each half leads to the other, so 250 states each are alike
	m = mustMach(t, "var a : 0..499; init 0; next if a < 250 then a + 250 else a - 250; always p : a < 250;")
	want := append(make([]int, 250), slices.Repeat([]int{1}, 250)...)
	if classes, steps = impl.Classes(m), impl.ClassSteps(m); !same(classes, want) || !slices.EqualFunc(steps, [][]int{{1}, {0}}, same) {
		t.Errorf("%v %v", classes, steps)
	}
	b := box()
	v := movesOf(b)
	classes = impl.Classes(b)
	if someDiffer(v, classes) || !slices.EqualFunc(impl.ClassSteps(b), v.classSteps(classes), same) {
		t.Errorf("box: %v", classes)
	}
}

func TestClassesOfWrongMachines(t *testing.T) {
	for what, m := range wrongMachs() {
		if classes, steps := impl.Classes(m), impl.ClassSteps(m); len(classes) != 0 || len(steps) != 0 {
			t.Errorf("%s: %v %v", what, classes, steps)
		}
	}
}
