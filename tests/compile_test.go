package tests

import (
	"fmt"
	"math/rand/v2"
	"slices"
	"strings"
	"testing"

	"loop.example/registrar/impl"
)

// P42
func TestCircuitsDoWhatMachinesMay(t *testing.T) {
	made, large, choices := 0, 0, 0
	eachTruths(131, 2000, func(r *rand.Rand, m impl.Mach) {
		a, ok := impl.Compile(m)
		want, fine := compileByHand(m)
		if ok != fine || !sameAig(a, want) {
			t.Fatalf("%s: %v %v, want %v %v", machPutByHand(m), a, ok, want, fine)
		}
		if !ok {
			large++
			return
		}
		made++
		if a.Inputs > 1 {
			choices++
		}
		wantCompiledAsPromised(t, m, a)
	})
	if made < 1500 || large < 50 || choices < 500 {
		t.Errorf("%d machines have a circuit, %d have none, %d have two inputs or more", made, large, choices)
	}
}

// wantCompiledAsPromised looks whether a circuit leads from each state, with all inputs, to just what the machine may come to, and finds bad just the rules that are 0.
func wantCompiledAsPromised(t *testing.T, m impl.Mach, a impl.Aig) {
	t.Helper()
	if !impl.AigOk(a) || !sameAig(impl.AigLess(a), a) {
		t.Fatalf("%s: %v", machPutByHand(m), a)
	}
	inits := []bool{}
	for _, latch := range a.Latches {
		inits = append(inits, latch.Init)
	}
	wantStates(t, "Init", impl.StateInits(m), [][]int{numbersOfBools(inits)})
	for _, s := range allStates(m) {
		led := [][]int{}
		for _, row := range models(a.Inputs) {
			next, bads := impl.AigStep(a, boolsOfNumbers(s), row)
			led = append(led, numbersOfBools(next))
			for i, r := range m.Rules {
				if value, _ := impl.StateValue(m, s, r.Exp); bads[i] != (value == 0) || len(bads) != len(m.Rules) {
					t.Fatalf("%s: %v in %v: %v", machPutByHand(m), a, s, bads)
				}
			}
		}
		slices.SortFunc(led, slices.Compare)
		led = slices.CompactFunc(led, same)
		if !slices.EqualFunc(led, impl.StateSteps(m, s), same) || !slices.EqualFunc(led, stepsByHand(m, s), same) {
			t.Fatalf("%s: %v leads from %v to %v", machPutByHand(m), a, s, led)
		}
	}
}

func TestCircuitsOfEdges(t *testing.T) {
	for _, c := range []struct {
		what string
		text string
		want string
	}{
		{"of the given test", "var a : bool; init false; next !a; var b : bool; init false; next b, a & !b; always p : !(a & b); always q : a | !b | true;", "aag 8 1 2 0 5 2\n2\n4 5 0\n6 15 0\n16\n0\n8 4 7\n10 2 8\n12 3 6\n14 11 13\n16 4 6\n"},
		{"stays", "var a : bool; init true; next a;", "aag 1 0 1 0 0 0\n2 2 1\n"},
		{"turns", "var a : bool; init false; next !a;", "aag 1 0 1 0 0 0\n2 3 0\n"},
		{"never next", "var a : bool; init true; next false;", "aag 1 0 1 0 0 0\n2 0 1\n"},
		{"always next", "var a : bool; init false; next true;", "aag 1 0 1 0 0 0\n2 1 0\n"},
		{"turned twice", "var a : bool; init false; next !!a;", "aag 1 0 1 0 0 0\n2 2 0\n"},
		{"as many declarations as there may be", "var a : bool; init true; next e; var b : bool; init false; next a; var c : bool; init true; next !b; var d : bool; init true; next c; var e : bool; init false; next d;", "aag 5 0 5 0 0 0\n2 10 1\n4 2 0\n6 5 1\n8 6 1\n10 8 0\n"},
		{"two choices for each", "var a : bool; init true; next true, false; var b : bool; init true; next false, true; var c : bool; init true; next true, false; var d : bool; init true; next true, false; var e : bool; init true; next true, false;", "aag 10 5 5 0 0 0\n2\n4\n6\n8\n10\n12 3 1\n14 4 1\n16 7 1\n18 9 1\n20 11 1\n"},
		{"inputs only for those with two", "var a : bool; init true; next b; var b : bool; init true; next false, true; var c : bool; init true; next a; var d : bool; init true; next false, true;", "aag 6 2 4 0 0 0\n2\n4\n6 8 1\n8 2 1\n10 6 1\n12 4 1\n"},
		{"two that are the same", "var a : bool; init false; next a, a;", "aag 5 1 1 0 3 0\n2\n4 11 0\n6 2 4\n8 3 4\n10 7 9\n"},
		{"two that are the same, and true", "var a : bool; init false; next true, true;", "aag 2 1 1 0 0 0\n2\n4 1 0\n"},
		{"two that are the same, and false", "var a : bool; init false; next false, false;", "aag 2 1 1 0 0 0\n2\n4 0 0\n"},
		{"one that is true, one that is false", "var a : bool; init false; next true, false;", "aag 2 1 1 0 0 0\n2\n4 3 0\n"},
		{"one that is false, one that is true", "var a : bool; init false; next false, true;", "aag 2 1 1 0 0 0\n2\n4 2 0\n"},
		{"one that is true, and another", "var a : bool; init false; next true, a;", "aag 4 1 1 0 2 0\n2\n4 9 0\n6 2 4\n8 2 7\n"},
		{"another, and one that is false", "var a : bool; init false; next a, false;", "aag 3 1 1 0 1 0\n2\n4 6 0\n6 3 4\n"},
		{"two with ands, the first ahead of the second", "var a : bool; init false; next a & b, a & !b; var b : bool; init false; next b;", "aag 8 1 2 0 5 0\n2\n4 17 0\n6 6 0\n8 4 6\n10 4 7\n12 2 10\n14 3 8\n16 13 15\n"},
		{"no rule", "var a : bool; init false; next a;", "aag 1 0 1 0 0 0\n2 2 0\n"},
		{"as many rules as there may be", "var a : bool; init false; next a; always p : a; always q : !a; always r : true; always s : false;", "aag 1 0 1 0 0 4\n2 2 0\n3\n2\n0\n1\n"},
		{"a rule that is always so, by ands", "var a : bool; init false; next a; always p : a | !a;", "aag 1 0 1 0 0 1\n2 2 0\n0\n"},
		{"a rule that never is, by ands", "var a : bool; init false; next a; always p : a & !a;", "aag 1 0 1 0 0 1\n2 2 0\n1\n"},
		{"two rules that are the same", "var a : bool; init false; next a; var b : bool; init false; next b; always p : a & b; always q : b & a;", "aag 3 0 2 0 1 2\n2 2 0\n4 4 0\n7\n7\n6 2 4\n"},
		{"a rule of what is next", "var a : bool; init false; next a & b; var b : bool; init false; next b; always p : !(b & a);", "aag 3 0 2 0 1 1\n2 6 0\n4 4 0\n6\n6 2 4\n"},
		{"ands of Next ahead of those of rules", "var a : bool; init false; next a; var b : bool; init false; next a & b; always p : a & !b;", "aag 4 0 2 0 2 1\n2 2 0\n4 6 0\n9\n6 2 4\n8 2 5\n"},
		{"a latch that nothing needs", "var a : bool; init true; next true; var b : bool; init false; next !b; always p : a;", "aag 2 0 2 0 0 1\n2 1 1\n4 5 0\n3\n"},
		{"a latch that nothing needs, not even itself", "var a : bool; init true; next a; var b : bool; init false; next false;", "aag 2 0 2 0 0 0\n2 2 1\n4 0 0\n"},
		{"an input that nothing needs", "var a : bool; init true; next a & !a, false;", "aag 2 1 1 0 0 0\n2\n4 0 1\n"},
		{"and", "var a : bool; init true; next b & a; var b : bool; init true; next b;", "aag 3 0 2 0 1 0\n2 6 1\n4 4 1\n6 2 4\n"},
		{"or", "var a : bool; init true; next a | b; var b : bool; init true; next b;", "aag 3 0 2 0 1 0\n2 7 1\n4 4 1\n6 3 5\n"},
		{"the same", "var a : bool; init true; next a = b; var b : bool; init true; next b;", "aag 5 0 2 0 3 0\n2 11 1\n4 4 1\n6 2 4\n8 3 5\n10 7 9\n"},
		{"not the same", "var a : bool; init true; next !(a = b); var b : bool; init true; next b;", "aag 5 0 2 0 3 0\n2 10 1\n4 4 1\n6 2 4\n8 3 5\n10 7 9\n"},
		{"the same as itself", "var a : bool; init true; next a = a;", "aag 1 0 1 0 0 0\n2 1 1\n"},
		{"the same as its opposite", "var a : bool; init true; next a = !a;", "aag 1 0 1 0 0 0\n2 0 1\n"},
		{"the same as true", "var a : bool; init true; next a = true;", "aag 1 0 1 0 0 0\n2 2 1\n"},
		{"the same as false", "var a : bool; init true; next false = a;", "aag 1 0 1 0 0 0\n2 3 1\n"},
		{"the same as what is the same", "var a : bool; init true; next a = b = a; var b : bool; init true; next b;", "aag 8 0 2 0 6 0\n2 17 1\n4 4 1\n6 2 4\n8 3 5\n10 7 9\n12 2 11\n14 3 10\n16 13 15\n"},
		{"if", "var a : bool; init true; next if a then b else c; var b : bool; init true; next b; var c : bool; init true; next c;", "aag 6 0 3 0 3 0\n2 13 1\n4 4 1\n6 6 1\n8 2 4\n10 3 6\n12 9 11\n"},
		{"if, of ands", "var a : bool; init true; next if a & b then a & !b else !a & b; var b : bool; init true; next b;", "aag 8 0 2 0 6 0\n2 17 1\n4 4 1\n6 2 4\n8 2 5\n10 3 4\n12 6 8\n14 7 10\n16 13 15\n"},
		{"if true", "var a : bool; init true; next if true then b else a; var b : bool; init true; next b;", "aag 2 0 2 0 0 0\n2 4 1\n4 4 1\n"},
		{"if false", "var a : bool; init true; next if false then b else !a; var b : bool; init true; next b;", "aag 2 0 2 0 0 0\n2 3 1\n4 4 1\n"},
		{"if, within an if", "var a : bool; init true; next if if a then b else true then !b else a; var b : bool; init true; next b;", "aag 7 0 2 0 5 0\n2 15 1\n4 4 1\n6 2 4\n8 2 7\n10 5 9\n12 2 8\n14 11 13\n"},
	} {
		m := mustMach(t, c.text)
		a, ok := impl.Compile(m)
		if got := impl.AigPut(a); !ok || got != c.want {
			want, fine := compileByHand(m)
			t.Errorf("%s: %v %q, want %q (by hand %v %q)", c.what, ok, got, c.want, fine, putByHand(want))
		}
		wantCompiledAsPromised(t, m, a)
	}
}

// Init has no names, but it may have numbers: a latch keeps only what it says.
func TestInitsOfCircuits(t *testing.T) {
	for text, want := range map[string]bool{
		"true": true, "false": false, "!true": false, "!false": true, "!!true": true,
		"true & false": false, "true | false": true, "true = true": true, "false = false": true, "true = false": false,
		"1 < 2": true, "2 < 1": false, "7 = 7": true, "1 + 1 = 3 - 1": true, "3 - 5 < 0": true, "0 < 3 - 5": false,
		"if true then false else true": false, "if 2 < 1 then false else true": true, "if 1 < 2 then 3 = 4 else true": false, "(if false then 1 else 2) = 2": true,
	} {
		m := mustMach(t, "var a : bool; init true; next a; var b : bool; init "+text+"; next a & b; always p : b;")
		a, ok := impl.Compile(m)
		if !ok || len(a.Latches) != 2 || !a.Latches[0].Init || a.Latches[1].Init != want {
			t.Errorf("init %s: %v %v", text, a, ok)
			continue
		}
		wantCompiledAsPromised(t, m, a)
	}
}

// manyPairs is a machine of five truths that leaves so many ands behind, 38 at least: all pairs, all pairs of opposites, and some more.
func manyPairs(t *testing.T, ands int) impl.Mach {
	t.Helper()
	names := []string{"a", "b", "c", "d", "e"}
	some, other := []string{}, []string{}
	for i, x := range names {
		for _, y := range names[i+1:] {
			some = append(some, x+" & "+y)
			other = append(other, "!"+x+" & !"+y)
		}
	}
	nexts := []string{joinedDeep(some), joinedDeep(other), strings.Join([]string{"a", "!b", "c", "!d", "e"}[:ands-37], " & "), "d", "e"}
	text := ""
	for i, x := range names {
		text += "var " + x + " : bool; init false; next " + nexts[i] + ";"
	}
	return mustMach(t, text)
}

// joinedDeep is texts with `|` between, in brackets so that it is not deep.
func joinedDeep(texts []string) string {
	if len(texts) == 1 {
		return texts[0]
	}
	half := len(texts) / 2
	return "(" + joinedDeep(texts[:half]) + ") | (" + joinedDeep(texts[half:]) + ")"
}

func TestCircuitsAtAndMax(t *testing.T) {
	for ands := 38; ands <= impl.AndMax; ands++ {
		m := manyPairs(t, ands)
		a, ok := impl.Compile(m)
		if !ok || len(a.Ands) != ands {
			t.Fatalf("%d ands: %v %v", ands, a, ok)
		}
		wantCompiledAsPromised(t, m, a)
		// the same again in a rule adds nothing that stays
		m.Rules = []impl.Rule{rule("p", m.Decls[0].Next[0]), rule("q", not(m.Decls[1].Next[0]))}
		if a, ok = impl.Compile(m); !ok || len(a.Ands) != ands {
			t.Fatalf("%d ands, and rules: %v %v", ands, a, ok)
		}
		wantCompiledAsPromised(t, m, a)
	}
	if a, ok := impl.Compile(manyPairs(t, impl.AndMax+1)); ok || !isNoAig(a) {
		t.Errorf("one more: %v %v", a, ok)
	}
	// one more, that only a rule needs
	m := manyPairs(t, impl.AndMax)
	m.Rules = []impl.Rule{rule("p", two(name("a"), "&", not(name("e"))))}
	if a, ok := impl.Compile(m); ok || !isNoAig(a) {
		t.Errorf("one more of a rule: %v %v", a, ok)
	}
	// more that are there, but say nothing
	m.Rules = []impl.Rule{rule("p", two(two(name("a"), "&", not(name("a"))), "|", ofAnds(20)))}
	if a, ok := impl.Compile(m); !ok || len(a.Ands) != impl.AndMax {
		t.Errorf("more that say nothing: %v %v", a, ok)
	}
}

// crowded is a machine of truths that makes so many ands, 15 to 392, ahead of a last rule; they all say nothing.
func crowded(ands int, last impl.Exp) impl.Mach {
	m := impl.Mach{}
	left := ands - 3*impl.DeclMax // of each two of Next three are made
	take := func() impl.Exp {
		many := min(left, 29)
		left -= many
		return ofAnds(many)
	}
	for i := range impl.DeclMax {
		d := truths(string(rune('a' + i)))
		d.Next = []impl.Exp{take(), take()}
		m.Decls = append(m.Decls, d)
	}
	m.Rules = []impl.Rule{rule("p", take()), rule("q", take()), rule("r", take()), rule("s", last)}
	return m
}

func TestCircuitsOfManyAndsAhead(t *testing.T) {
	const most = 8 * impl.AndMax
	a, b := name("a"), name("b")
	for _, c := range []struct {
		what string
		last impl.Exp
		more int // ands that may still be ahead of the last expression, less as many as may be in all
	}{
		{"a name", a, 0},
		{"a truth", yes(), 0},
		{"another truth", no(), 0},
		{"a name, turned", not(not(a)), 0},
		{"one and", two(a, "&", b), 0},
		{"the same", two(a, "=", b), 0},
		{"an if", when(a, b, no()), 0},
		{"an and that is not ahead of its right side", two(a, "&", two(a, "|", b)), 0},
		{"an and ahead of its right side", two(two(a, "&", b), "|", a), -1},
		{"two ands ahead of its right side", two(two(two(a, "&", b), "|", a), "&", b), -2},
		{"three ands ahead of its right side", two(two(a, "=", b), "|", yes()), -3},
		{"an if ahead of its right side", two(when(a, b, yes()), "&", no()), -3},
		{"an and ahead of its then", when(two(a, "&", b), a, b), -1},
		{"ands ahead of its else", when(two(a, "&", b), two(a, "|", b), b), -2},
	} {
		for ands := most - 5; ands <= most+5; ands++ {
			m := crowded(ands, c.last)
			if made := madeOf(impl.Mach{Decls: m.Decls, Rules: m.Rules[:3]}); len(made.a.Ands) != ands {
				t.Fatalf("%d ands, want %d", len(made.a.Ands), ands)
			}
			got, ok := impl.Compile(m)
			if ok != (ands <= most+c.more) {
				t.Errorf("%s, %d ands ahead: %v", c.what, ands, ok)
			}
			want, fine := compileByHand(m)
			if ok != fine || !sameAig(got, want) {
				t.Errorf("%s, %d ands ahead: %v, want %v", c.what, ands, got, want)
			}
		}
	}
}

// What is refused for too many ands ahead may be a Next, too, the first or the second; behind all expressions there may be more.
func TestCircuitsOfManyAndsInNext(t *testing.T) {
	same := ofSigns("=", 29) // 87 ands
	build := func(decls int, last ...impl.Exp) impl.Mach {
		m := impl.Mach{}
		for i := range decls {
			d := truths(string(rune('a' + i)))
			d.Next = []impl.Exp{same, same}
			m.Decls = append(m.Decls, d)
		}
		m.Decls[decls-1].Next = last
		return m
	}
	refused, made := 0, 0
	for decls := 1; decls <= impl.DeclMax; decls++ {
		for pad := range 30 {
			for _, last := range [][]impl.Exp{{same}, {yes(), same}, {same, yes()}, {ofAnds(pad)}, {ofAnds(pad), yes()}, {ofAnds(pad), ofAnds(29)}, {ofAnds(29), ofAnds(pad)}} {
				m := build(decls, last...)
				got, ok := impl.Compile(m)
				want, fine := compileByHand(m)
				if ok != fine || !sameAig(got, want) {
					t.Fatalf("%d declarations, %d: %v %v, want %v %v", decls, pad, got, ok, want, fine)
				}
				if ok {
					made++
				} else {
					refused++
				}
			}
		}
	}
	if refused < 100 || made < 100 {
		t.Errorf("%d made, %d refused", made, refused)
	}
}

// wrongForCircuits is machines that are fine, but of which no circuit is made.
func wrongForCircuits() map[string]string {
	return map[string]string{
		"a number":                           "var a : 0..1; init 0; next a;",
		"a number first":                     "var a : 0..1; init 0; next a; var b : bool; init true; next b;",
		"a number last":                      "var b : bool; init true; next b; var a : 0..1; init 0; next a; always p : b;",
		"one number alone":                   "var a : 0..0; init 0; next a;",
		"two of Init":                        "var a : bool; init true, false; next a;",
		"two of Init that are the same":      "var a : bool; init true, true; next a;",
		"three of Init":                      "var a : bool; init true, false, true; next a;",
		"two of Init, the last declaration":  "var a : bool; init true; next a; var b : bool; init true, false; next b;",
		"three of Next":                      "var a : bool; init true; next a, !a, true;",
		"three of Next that are the same":    "var a : bool; init true; next a, a, a;",
		"three of Next, last":                "var a : bool; init true; next a; var b : bool; init true; next a, b, true;",
		"a number in Next":                   "var a : bool; init true; next 1 < 2;",
		"the same number in Next":            "var a : bool; init true; next 1 = 1;",
		"a number in the second of Next":     "var a : bool; init true; next a, 0 = 1;",
		"a number deep in Next":              "var a : bool; init true; next !(a | (if a then 3 < 4 else a));",
		"numbers of which one is chosen":     "var a : bool; init true; next (if a then 1 else 2) = 1;",
		"a number that does not matter":      "var a : bool; init true; next a & false & 1 < 2;",
		"a number in the last Next":          "var a : bool; init true; next a; var b : bool; init true; next a = (1 < 2);",
		"a number in a rule":                 "var a : bool; init true; next a; always p : 1 < 2;",
		"a number in the last rule":          "var a : bool; init true; next a; always p : a; always q : a | 1 = 1;",
		"a sum in a rule":                    "var a : bool; init true; next a; always p : 1 + 1 < 3 - 1;",
		"a number deep in a rule":            "var a : bool; init true; next a; always p : if a then !(2 < 1) else a;",
		"numbers, and a rule that has none":  "var a : 0..1; init 0; next 0; always p : true;",
		"all that is wrong at the same time": "var a : 0..3; init 0, 1; next a, a + 1, a - 1; always p : a < 3;",
	}
}

func TestMachinesWithoutCircuits(t *testing.T) {
	for what, text := range wrongForCircuits() {
		if a, ok := impl.Compile(mustMach(t, text)); ok || !isNoAig(a) {
			t.Errorf("%s: %v %v", what, a, ok)
		}
	}
	for what, m := range wrongMachs() {
		if a, ok := impl.Compile(m); ok || !isNoAig(a) {
			t.Errorf("%s: %v %v", what, a, ok)
		}
	}
	plain := impl.Mach{Decls: []impl.Decl{truths("a"), truths("b")}, Rules: []impl.Rule{rule("p", name("a"))}}
	if _, ok := impl.Compile(plain); !ok {
		t.Fatal("a machine of truths has no circuit")
	}
	for what, spoil := range map[string]func(m *impl.Mach){
		"many declarations":      func(m *impl.Mach) { m.Decls = slices.Repeat(m.Decls, 3) },
		"a name twice":           func(m *impl.Mach) { m.Decls[1].Name = "a" },
		"no name":                func(m *impl.Mach) { m.Decls[1].Name = "" },
		"many rules":             func(m *impl.Mach) { m.Rules = slices.Repeat(m.Rules, 5) },
		"up to 2":                func(m *impl.Mach) { m.Decls[1].High = 2 },
		"no Init":                func(m *impl.Mach) { m.Decls[1].Init = nil },
		"an Init with a name":    func(m *impl.Mach) { m.Decls[1].Init = []impl.Exp{name("a")} },
		"no Next":                func(m *impl.Mach) { m.Decls[1].Next = nil },
		"a Next of nothing":      func(m *impl.Mach) { m.Decls[1].Next = []impl.Exp{name("c")} },
		"a Next that is a part":  func(m *impl.Mach) { m.Decls[1].Next = []impl.Exp{endless(impl.ExpTwo, 2)} },
		"a Next too deep":        func(m *impl.Mach) { m.Decls[1].Next = []impl.Exp{deepAt(13, impl.ExpNot, 0)} },
		"a Next of too much":     func(m *impl.Mach) { m.Decls[1].Next = []impl.Exp{sized(61)} },
		"a rule of nothing":      func(m *impl.Mach) { m.Rules[0].Exp = name("c") },
		"a rule of another kind": func(m *impl.Mach) { m.Rules[0].Exp = impl.Exp{Kind: 8} },
	} {
		m := copyMach(plain)
		spoil(&m)
		if a, ok := impl.Compile(m); ok || !isNoAig(a) {
			t.Errorf("%s: %v %v", what, a, ok)
		}
	}
}

// P43
func TestUnrolledClausesAreRuns(t *testing.T) {
	bad, fine, large, some, none := 0, 0, 0, 0, 0
	eachCircuit(132, func(r *rand.Rand, a impl.Aig) {
		steps := 1 + r.IntN(1+impl.VarMax/max(1, nodeCount(a)-1))
		steps = min(steps, 1+r.IntN(8))
		c, ok := impl.Unroll(a, steps)
		want, may := unrollByHand(a, steps)
		if ok != may || !sameCnf(c, want) {
			t.Fatalf("%v, %d steps: %v %v, want %v %v", a, steps, c, ok, want, may)
		}
		if !ok {
			large++
			return
		}
		for range 8 {
			model, ends := runModel(a, drawRows(r, steps, a.Inputs))
			if impl.CnfHolds(c, model) != ends {
				t.Fatalf("%v, %d steps: %v of %v", a, steps, ends, model)
			}
			if ends {
				bad++
			} else {
				fine++
			}
		}
		way, found := impl.Solve(c, nil)
		if found != canEndBad(a, steps) {
			t.Fatalf("%v, %d steps: %v", a, steps, found)
		}
		if !found {
			none++
			return
		}
		some++
		if model, ends := runModel(a, rowsOf(a, steps, way)); !ends || !slices.Equal(model, way) {
			t.Fatalf("%v, %d steps: %v is no run, but %v", a, steps, way, model)
		}
	})
	if bad < 500 || fine < 500 || large < 30 || some < 500 || none < 100 {
		t.Errorf("%d runs are bad, %d fine; %d are too large, %d can be, %d cannot", bad, fine, large, some, none)
	}
}

// What is no run does not hold: each node is as the run says, or another clause is broken.
func TestUnrolledClausesAreOnlyRuns(t *testing.T) {
	r := drawer(133)
	for i := range 500 {
		a := drawAig(r, i%3, i/3%3, r.IntN(3), 1+r.IntN(2))
		steps := 1 + r.IntN(impl.CountMax/max(4, nodeCount(a)-1))
		c, ok := impl.Unroll(a, steps)
		if !ok {
			t.Fatalf("%v, %d steps: %v", a, steps, c)
		}
		runs := 0
		for _, rows := range models(a.Inputs * steps) {
			inputs := [][]bool{}
			for step := range steps {
				inputs = append(inputs, rows[step*a.Inputs:(step+1)*a.Inputs])
			}
			if _, ends := runModel(a, inputs); ends {
				runs++
			}
		}
		if n := impl.Count(c); n != runs {
			t.Fatalf("%v, %d steps: %d ways, %d runs", a, steps, n, runs)
		}
	}
}

func TestUnrolledEdges(t *testing.T) {
	latch := func(next int, init bool) []impl.Latch { return []impl.Latch{{Next: next, Init: init}} }
	for _, c := range []struct {
		what  string
		a     impl.Aig
		steps int
		want  string
	}{
		{"the given test", impl.Aig{Inputs: 1, Latches: latch(6, false), Ands: pairs([][2]int{{3, 5}}), Bads: []int{4}}, 2, "{6 [[-2] [-3 -1] [-3 -2] [3 1 2] [-5 3] [5 -3] [-6 -4] [-6 -5] [6 4 5] [5]]}"},
		{"nothing", impl.Aig{}, 1, "{0 [[]]}"},
		{"nothing, in many steps", impl.Aig{}, 60, "{0 [[]]}"},
		{"nothing, always bad", impl.Aig{Bads: []int{1}}, 60, "{0 []}"},
		{"nothing, never bad", impl.Aig{Bads: []int{0}}, 3, "{0 [[]]}"},
		{"without latches", impl.Aig{Inputs: 2, Ands: pairs([][2]int{{2, 5}}), Bads: []int{7}}, 2, "{6 [[-3 1] [-3 -2] [3 -1 2] [-6 4] [-6 -5] [6 -4 5] [-6]]}"},
		{"without inputs", impl.Aig{Latches: latch(5, false), Ands: pairs([][2]int{{2, 2}}), Bads: []int{4}}, 2, "{4 [[-1] [-2 1] [-2 1] [2 -1 -1] [-3 -2] [3 2] [-4 3] [-4 3] [4 -3 -3] [4]]}"},
		{"without ands", impl.Aig{Inputs: 1, Latches: latch(2, true), Bads: []int{4}}, 3, "{6 [[2] [-4 1] [4 -1] [-6 3] [6 -3] [6]]}"},
		{"without Bads", impl.Aig{Inputs: 1, Latches: latch(2, true)}, 2, "{4 [[2] [-4 1] [4 -1] []]}"},
		{"only inputs", impl.Aig{Inputs: 2, Bads: []int{3, 4}}, 2, "{4 [[-3 4]]}"},
		{"Next is never", impl.Aig{Latches: latch(0, true), Bads: []int{2}}, 3, "{3 [[1] [-2] [-3] [3]]}"},
		{"Next is always", impl.Aig{Latches: latch(1, false), Bads: []int{2}}, 3, "{3 [[-1] [2] [3] [3]]}"},
		{"Next is itself", impl.Aig{Latches: latch(2, true), Bads: []int{3}}, 3, "{3 [[1] [-2 1] [2 -1] [-3 2] [3 -2] [-3]]}"},
		{"Next is its opposite", impl.Aig{Latches: latch(3, true), Bads: []int{3}}, 3, "{3 [[1] [-2 -1] [2 1] [-3 -2] [3 2] [-3]]}"},
		{"Next is an input", impl.Aig{Inputs: 1, Latches: latch(2, false), Bads: []int{4}}, 2, "{4 [[-2] [-4 1] [4 -1] [4]]}"},
		{"Next is an input's opposite", impl.Aig{Inputs: 1, Latches: latch(3, false), Bads: []int{4}}, 2, "{4 [[-2] [-4 -1] [4 1] [4]]}"},
		{"Next is an and", impl.Aig{Inputs: 1, Latches: latch(6, false), Ands: pairs([][2]int{{2, 4}}), Bads: []int{4}}, 2, "{6 [[-2] [-3 1] [-3 2] [3 -1 -2] [-5 3] [5 -3] [-6 4] [-6 5] [6 -4 -5] [5]]}"},
		{"Next is an and's opposite", impl.Aig{Inputs: 1, Latches: latch(7, false), Ands: pairs([][2]int{{2, 4}}), Bads: []int{4}}, 2, "{6 [[-2] [-3 1] [-3 2] [3 -1 -2] [-5 -3] [5 3] [-6 4] [-6 5] [6 -4 -5] [5]]}"},
		{"one latch behind the other", impl.Aig{Latches: []impl.Latch{{Next: 4, Init: true}, {Next: 3}}, Bads: []int{2, 4}}, 2, "{4 [[1] [-2] [-3 2] [3 -2] [-4 -1] [4 1] [3 4]]}"},
		{"ands with never and always", impl.Aig{Inputs: 1, Ands: pairs([][2]int{{0, 2}, {1, 2}, {1, 1}, {0, 1}}), Bads: []int{4}}, 2, "{10 [[-2] [-2 1] [-3 1] [3 -1] [4] [-5] [-7] [-7 6] [-8 6] [8 -6] [9] [-10] [7]]}"},
		{"Bads with never", impl.Aig{Inputs: 1, Bads: []int{0, 2, 0, 3}}, 2, "{2 [[2 -2]]}"},
		{"Bads that all never are", impl.Aig{Inputs: 1, Bads: []int{0, 0}}, 2, "{2 [[]]}"},
		{"Bads with always", impl.Aig{Inputs: 1, Latches: latch(2, false), Bads: []int{2, 1, 0}}, 2, "{4 [[-2] [-4 1] [4 -1]]}"},
		{"Bads with always first", impl.Aig{Inputs: 1, Bads: []int{1, 3}}, 2, "{2 []}"},
		{"one of Bads twice", impl.Aig{Inputs: 1, Bads: []int{3, 3}}, 2, "{2 [[-2 -2]]}"},
		{"as many of Bads as there may be", impl.Aig{Inputs: 4, Bads: []int{9, 6, 5, 2}}, 1, "{4 [[-4 3 -2 1]]}"},
	} {
		cnf, ok := impl.Unroll(c.a, c.steps)
		if got := fmt.Sprint(cnf); !ok || got != c.want {
			t.Errorf("%s: %v %s, want %s", c.what, ok, got, c.want)
		}
	}
}

// wantUnrolled says whether there are clauses of so many steps, and that they are as the document says.
func wantUnrolled(t *testing.T, what string, a impl.Aig, steps int, fine bool) {
	t.Helper()
	c, ok := impl.Unroll(a, steps)
	want, may := unrollByHand(a, steps)
	if ok != fine || ok != may || !sameCnf(c, want) {
		t.Errorf("%s, %d steps: %v %v, want %v %v", what, steps, c, ok, want, fine)
	}
}

func TestUnrolledStepsAtLimits(t *testing.T) {
	const least, greatest = -1 << 63, 1<<63 - 1
	for nodes := range impl.InputMax + 1 {
		a := impl.Aig{Inputs: nodes, Bads: []int{2 * nodes}}
		most := impl.VarMax
		if nodes > 0 {
			most = impl.VarMax / nodes
		}
		for steps := -1; steps <= impl.VarMax+2; steps++ {
			wantUnrolled(t, fmt.Sprint(nodes, " inputs"), a, steps, steps >= 1 && steps <= most)
		}
		for _, steps := range []int{least, least + 1, -impl.VarMax, 1 << 32, 1 << 62, 1<<62 + 1, 1 << 61, 1<<63 - 2, greatest, 1<<60 + 1} {
			if c, ok := impl.Unroll(a, steps); ok || !isNothing(c) {
				t.Errorf("%d inputs, %d steps: %v %v", nodes, steps, c, ok)
			}
		}
	}
	one := impl.Aig{Latches: []impl.Latch{{Next: 3}}, Bads: []int{2}}
	wantUnrolled(t, "a latch, just VarMax", one, impl.VarMax, true)
	wantUnrolled(t, "a latch, one more", one, impl.VarMax+1, false)
	wantUnrolled(t, "a full circuit", full(), 1, true)
	wantUnrolled(t, "a full circuit", full(), 2, false)
	r := drawer(134)
	for i := range 200 {
		// each sort of node counts
		a := drawAig(r, i%3, i/3%3, r.IntN(4), 1)
		nodes := max(1, nodeCount(a)-1)
		wantUnrolled(t, "drawn", a, impl.VarMax/nodes, len(unrolledAnyway(a, impl.VarMax/nodes)) <= impl.ClauseMax)
		wantUnrolled(t, "drawn", a, impl.VarMax/nodes+1, false)
	}
}

// unrolledAnyway is about as many clauses as there would be of steps, however many that are.
func unrolledAnyway(a impl.Aig, steps int) [][]int {
	clauses := [][]int{}
	for step := range steps {
		for _, latch := range a.Latches {
			clauses = append(clauses, nil)
			if step > 0 && latch.Next > 1 {
				clauses = append(clauses, nil)
			}
		}
		clauses = append(clauses, cnfByHand(a).Clauses...)
	}
	if !slices.Contains(a.Bads, 1) {
		clauses = append(clauses, nil)
	}
	return clauses
}

func TestUnrolledClausesAtClauseMax(t *testing.T) {
	crowd := func(ands int, bads ...int) impl.Aig {
		return impl.Aig{Inputs: 5, Ands: manyAnds(ands), Bads: bads}
	}
	wantUnrolled(t, "150, with nothing behind", crowd(25, 1), 2, true)
	wantUnrolled(t, "150, and one behind", crowd(25, 2), 2, false)
	wantUnrolled(t, "150, and an empty one behind", crowd(25, 0), 2, false)
	wantUnrolled(t, "150, and none of Bads", crowd(25), 2, false)
	wantUnrolled(t, "145", crowd(24, 2), 2, true)
	// with one and of never, which has a clause less in each step, it is just one behind all that makes them 149
	some := crowd(25, 2)
	some.Ands[24] = impl.And{A: 0, B: 2}
	wantUnrolled(t, "149", some, 2, true)
	// one latch makes one at first, and two later: 3 more
	some = crowd(24, 2)
	some.Inputs, some.Latches = 4, []impl.Latch{{Next: 2}}
	wantUnrolled(t, "148", some, 2, true)
	some.Latches, some.Inputs = []impl.Latch{{Next: 2}, {Next: 0}}, 3
	wantUnrolled(t, "150, with latches", some, 2, true)
	some.Latches[1].Next = 4
	wantUnrolled(t, "151, with latches", some, 2, false)
	if c, ok := impl.Unroll(some, 2); ok || !isNothing(c) {
		t.Errorf("%v %v", c, ok)
	}
}

func TestUnrolledWrongCircuits(t *testing.T) {
	for what, a := range wrongAigs() {
		for _, steps := range []int{0, 1, 2, impl.VarMax} {
			if c, ok := impl.Unroll(a, steps); ok || !isNothing(c) {
				t.Errorf("%s, %d steps: %v %v", what, steps, c, ok)
			}
		}
	}
}

// endsBroken says whether a way of so many states can end where a rule is 0.
func (v *moves) endsBroken(rule int, states int) bool {
	open := v.first
	for range states - 1 {
		later := []int{}
		for _, p := range open {
			later = append(later, v.next[p]...)
		}
		slices.Sort(later)
		open = slices.Compact(later)
	}
	return slices.ContainsFunc(open, func(p int) bool { return !v.good[p][rule] })
}

// P44
func TestMachinesAndCircuitsAgree(t *testing.T) {
	holds, atOnce, later, far := 0, 0, 0, 0
	r := drawer(135)
	for i := range 2000 {
		m := drawTruths(r, 1+i%4, 1, 1+r.IntN(3))
		if i%4 == 0 {
			m = countingTruths(t, 2+i/4%2, r.IntN(8))
		}
		a, ok := impl.Compile(m)
		if !ok {
			continue
		}
		v := movesOf(m)
		trace, held := impl.Check(m, 0)
		for steps := 1; steps <= impl.VarMax/(nodeCount(a)-1); steps++ {
			c, small := impl.Unroll(a, steps)
			if !small {
				break
			}
			_, found := impl.Solve(c, nil)
			if held && found || found && steps < len(trace) || !held && steps == len(trace) && !found {
				t.Fatalf("%s: %v %v, and of %d steps %v", machPutByHand(m), trace, held, steps, found)
			}
			if found != v.endsBroken(0, steps) {
				t.Fatalf("%s: of %d steps %v", machPutByHand(m), steps, found)
			}
			switch {
			case held:
				holds++
			case steps == 1 && found:
				atOnce++
			case steps == len(trace) && steps < 4:
				later++
			case steps == len(trace):
				far++
			}
		}
	}
	if holds < 1000 || atOnce < 200 || later < 100 || far < 20 {
		t.Errorf("of rules that hold %d steps were tried; %d are broken at once, %d later, %d far", holds, atOnce, later, far)
	}
}

// countingTruths is a machine that counts through all that two or three truths may be; its rule is 0 at just one of these.
func countingTruths(t *testing.T, many int, at int) impl.Mach {
	t.Helper()
	m := mustMach(t, "var a : bool; init false; next !a; var b : bool; init false; next !(a = b); always p : true;")
	is := []impl.Exp{name("a"), name("b")}
	if many == 3 {
		m.Decls = append(m.Decls, mustMach(t, "var a : bool; init false; next a; var b : bool; init true; next b; var c : bool; init false; next if a & b then !c else c;").Decls[2])
		is = append(is, name("c"))
	}
	for i := range is {
		if at>>i&1 == 0 {
			is[i] = not(is[i])
		}
	}
	broken := is[0]
	for _, e := range is[1:] {
		broken = two(broken, "&", e)
	}
	m.Rules[0].Exp = not(broken)
	return m
}

func TestWaysOfCountingTruths(t *testing.T) {
	for many := 2; many <= 3; many++ {
		for at := range 1 << many {
			m := countingTruths(t, many, at)
			a, ok := impl.Compile(m)
			if !ok {
				t.Fatalf("%s", machPutByHand(m))
			}
			for steps := 1; steps <= impl.VarMax/(nodeCount(a)-1); steps++ {
				c, small := impl.Unroll(a, steps)
				if !small {
					break
				}
				if _, found := impl.Solve(c, nil); found != ((steps-1)%(1<<many) == at) {
					t.Errorf("%d truths, %d: of %d steps %v", many, at, steps, found)
				}
			}
		}
	}
}
