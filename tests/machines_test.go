package tests

import (
	"fmt"
	"math/rand/v2"
	"slices"
	"strings"
	"testing"

	"loop.example/registrar/impl"
)

// example is the machine of the document.
const example = "var x : 0..5;\ninit 0, 1;\nnext if x < 4 then x + 2 else 0;\nvar up : bool;\ninit true;\nnext up, !up;\nalways low : x < 5;\nalways even : x = 0 | x = 2 | x = 4;\nalways near : x < 4 | up = up;\n"

// numbers is a declaration from a number up to another, that stays as it is.
func numbers(text string, low int, high int) impl.Decl {
	return impl.Decl{Name: text, Low: low, High: high, Init: []impl.Exp{num(max(0, min(low, impl.NumMax)))}, Next: []impl.Exp{name(text)}}
}

func truths(text string) impl.Decl {
	return impl.Decl{Name: text, Bool: true, High: 1, Init: []impl.Exp{yes()}, Next: []impl.Exp{name(text)}}
}

func rule(text string, e impl.Exp) impl.Rule {
	return impl.Rule{Name: text, Exp: e}
}

// wide is a machine with as many declarations and rules as there may be: numbers first and last.
func wide() impl.Mach {
	return impl.Mach{
		Decls: []impl.Decl{numbers("a", 0, 2), truths("b"), truths("c"), truths("d"), numbers("e", 1, 4)},
		Rules: []impl.Rule{rule("a", yes()), rule("b", name("b")), rule("p", two(name("a"), "<", name("e"))), rule("q", no())},
	}
}

// fault is something that can be done to the declaration at a place, or to a rule, so that a machine is wrong.
type fault struct {
	what string
	code int
	do   func(m *impl.Mach, decl int, rule int)
}

func faults() []fault {
	return []fault{
		{"no declarations", impl.MachNames, func(m *impl.Mach, _ int, _ int) { m.Decls = nil }},
		{"many declarations", impl.MachNames, func(m *impl.Mach, _ int, _ int) { m.Decls = append(m.Decls, truths("six")) }},
		{"many rules", impl.MachNames, func(m *impl.Mach, _ int, _ int) { m.Rules = append(m.Rules, rule("five", yes())) }},
		{"no name", impl.MachNames, func(m *impl.Mach, decl int, _ int) { m.Decls[decl].Name = "" }},
		{"a word for a name", impl.MachNames, func(m *impl.Mach, decl int, _ int) { m.Decls[decl].Name = "next" }},
		{"a long name", impl.MachNames, func(m *impl.Mach, decl int, _ int) { m.Decls[decl].Name = "abcdefghi" }},
		{"a name of figures", impl.MachNames, func(m *impl.Mach, decl int, _ int) { m.Decls[decl].Name = "a1" }},
		{"a name twice", impl.MachNames, func(m *impl.Mach, decl int, _ int) { m.Decls[decl].Name = m.Decls[(decl+2)%5].Name }},
		{"a rule of no name", impl.MachNames, func(m *impl.Mach, _ int, rule int) { m.Rules[rule].Name = "" }},
		{"a word for a rule's name", impl.MachNames, func(m *impl.Mach, _ int, rule int) { m.Rules[rule].Name = "always" }},
		{"a rule's long name", impl.MachNames, func(m *impl.Mach, _ int, rule int) { m.Rules[rule].Name = "abcdefghi" }},
		{"a rule's name twice", impl.MachNames, func(m *impl.Mach, _ int, rule int) { m.Rules[rule].Name = m.Rules[(rule+1)%4].Name }},
		{"Low below 0", impl.MachRange, func(m *impl.Mach, decl int, _ int) { m.Decls[decl].Low = -1 }},
		{"the least Low", impl.MachRange, func(m *impl.Mach, decl int, _ int) { m.Decls[decl].Low = -1 << 63 }},
		{"Low above High", impl.MachRange, func(m *impl.Mach, decl int, _ int) { m.Decls[decl].Low = m.Decls[decl].High + 1 }},
		{"High above NumMax", impl.MachRange, func(m *impl.Mach, decl int, _ int) { m.Decls[decl].High = impl.NumMax + 1 }},
		{"High and Low above NumMax", impl.MachRange, func(m *impl.Mach, decl int, _ int) { m.Decls[decl].Low, m.Decls[decl].High = 1000, 1000 }},
		{"the greatest High", impl.MachRange, func(m *impl.Mach, decl int, _ int) { m.Decls[decl].High = 1<<63 - 1 }},
		{"a truth up to 2", impl.MachRange, func(m *impl.Mach, decl int, _ int) { m.Decls[decl].Bool, m.Decls[decl].High = true, 2 }},
		{"a truth up to 0", impl.MachRange, func(m *impl.Mach, decl int, _ int) {
			m.Decls[decl].Bool, m.Decls[decl].Low, m.Decls[decl].High = true, 0, 0
		}},
		{"a truth from 1 on", impl.MachRange, func(m *impl.Mach, decl int, _ int) {
			m.Decls[decl].Bool, m.Decls[decl].Low, m.Decls[decl].High = true, 1, 1
		}},
		{"a truth below 0", impl.MachRange, func(m *impl.Mach, decl int, _ int) {
			m.Decls[decl].Bool, m.Decls[decl].Low, m.Decls[decl].High = true, -1, 1
		}},
		{"no Init", impl.MachInit, func(m *impl.Mach, decl int, _ int) { m.Decls[decl].Init = nil }},
		{"many of Init", impl.MachInit, func(m *impl.Mach, decl int, _ int) {
			e := m.Decls[decl].Init[0]
			m.Decls[decl].Init = []impl.Exp{e, e, e, e}
		}},
		{"an Init that is not ok", impl.MachInit, func(m *impl.Mach, decl int, _ int) { m.Decls[decl].Init[0] = impl.Exp{} }},
		{"an Init of the other kind", impl.MachInit, func(m *impl.Mach, decl int, _ int) { m.Decls[decl].Init[0] = ofKind(!m.Decls[decl].Bool) }},
		{"an Init of no kind", impl.MachInit, func(m *impl.Mach, decl int, _ int) { m.Decls[decl].Init[0] = two(yes(), "+", num(1)) }},
		{"an Init with its name", impl.MachInit, func(m *impl.Mach, decl int, _ int) { m.Decls[decl].Init[0] = name(m.Decls[decl].Name) }},
		{"an Init with a name in it", impl.MachInit, func(m *impl.Mach, decl int, _ int) {
			m.Decls[decl].Init[0] = when(two(name(m.Decls[decl].Name), "=", name(m.Decls[decl].Name)), m.Decls[decl].Init[0], m.Decls[decl].Init[0])
		}},
		{"the last Init that is not ok", impl.MachInit, func(m *impl.Mach, decl int, _ int) {
			m.Decls[decl].Init = []impl.Exp{m.Decls[decl].Init[0], m.Decls[decl].Init[0], num(1000)}
		}},
		{"no Next", impl.MachNext, func(m *impl.Mach, decl int, _ int) { m.Decls[decl].Next = nil }},
		{"many of Next", impl.MachNext, func(m *impl.Mach, decl int, _ int) {
			e := m.Decls[decl].Next[0]
			m.Decls[decl].Next = []impl.Exp{e, e, e, e}
		}},
		{"a Next that is not ok", impl.MachNext, func(m *impl.Mach, decl int, _ int) { m.Decls[decl].Next[0] = sized(61) }},
		{"a Next of the other kind", impl.MachNext, func(m *impl.Mach, decl int, _ int) { m.Decls[decl].Next[0] = ofKind(!m.Decls[decl].Bool) }},
		{"a Next of no kind", impl.MachNext, func(m *impl.Mach, decl int, _ int) { m.Decls[decl].Next[0] = not(num(0)) }},
		{"a Next with a name of nothing", impl.MachNext, func(m *impl.Mach, decl int, _ int) { m.Decls[decl].Next[0] = name("lost") }},
		{"a Next with a rule's name", impl.MachNext, func(m *impl.Mach, decl int, _ int) { m.Decls[decl].Next[0] = name("p") }},
		{"the last Next of the other kind", impl.MachNext, func(m *impl.Mach, decl int, _ int) {
			m.Decls[decl].Next = []impl.Exp{m.Decls[decl].Next[0], m.Decls[decl].Next[0], ofKind(!m.Decls[decl].Bool)}
		}},
		{"a rule that is not ok", impl.MachRule, func(m *impl.Mach, _ int, rule int) { m.Rules[rule].Exp = impl.Exp{} }},
		{"a rule that is a number", impl.MachRule, func(m *impl.Mach, _ int, rule int) { m.Rules[rule].Exp = num(1) }},
		{"a rule of a number's name", impl.MachRule, func(m *impl.Mach, _ int, rule int) { m.Rules[rule].Exp = name("a") }},
		{"a rule of no kind", impl.MachRule, func(m *impl.Mach, _ int, rule int) { m.Rules[rule].Exp = two(yes(), "<", yes()) }},
		{"a rule with a name of nothing", impl.MachRule, func(m *impl.Mach, _ int, rule int) { m.Rules[rule].Exp = two(name("lost"), "=", name("lost")) }},
		{"a rule that is a part of itself", impl.MachRule, func(m *impl.Mach, _ int, rule int) { m.Rules[rule].Exp = endless(impl.ExpNot, 1) }},
		{"many states", impl.MachMany, func(m *impl.Mach, decl int, _ int) { m.Decls[(decl/4)*4].High = 700 }},
		{"very many states", impl.MachMany, func(m *impl.Mach, _ int, _ int) { m.Decls[0].High, m.Decls[4].High = impl.NumMax, impl.NumMax }},
	}
}

func ofKind(isTruth bool) impl.Exp {
	if isTruth {
		return no()
	}
	return num(1)
}

// wrongMachs is machines that are not fine, each for one reason.
func wrongMachs() map[string]impl.Mach {
	wrong := map[string]impl.Mach{"nothing": {}}
	for _, f := range faults() {
		m := wide()
		f.do(&m, 0, 0)
		wrong[f.what] = m
	}
	return wrong
}

// P26
func TestCodesAlone(t *testing.T) {
	if code := impl.MachCheck(wide()); code != impl.MachFine {
		t.Fatalf("%d", code)
	}
	if code := impl.MachCheck(impl.Mach{}); code != impl.MachNames {
		t.Errorf("nothing: %d", code)
	}
	for _, f := range faults() {
		for decl := range impl.DeclMax {
			for rule := range impl.RuleMax {
				m := wide()
				f.do(&m, decl, rule)
				if code := impl.MachCheck(m); code != f.code {
					t.Errorf("%s, at %d and %d: %d, want %d", f.what, decl, rule, code, f.code)
				}
				if code := checkByHand(m); code != f.code {
					t.Errorf("%s, at %d and %d: by hand %d, want %d", f.what, decl, rule, code, f.code)
				}
			}
		}
	}
}

// P26: a code is ahead of a later one, wherever in the machine both are.
func TestCodesAheadOfLaterOnes(t *testing.T) {
	pairs := map[[2]int]bool{}
	for _, first := range faults() {
		for _, later := range faults() {
			if later.code <= first.code || first.what == "no declarations" {
				continue
			}
			pairs[[2]int{first.code, later.code}] = true
			for _, at := range [][4]int{{0, 4, 0, 3}, {4, 0, 3, 0}} {
				m := wide()
				later.do(&m, at[0], at[2])
				first.do(&m, at[1], at[3])
				if code := impl.MachCheck(m); code != first.code {
					t.Errorf("%s, and %s: %d, want %d", first.what, later.what, code, first.code)
				}
			}
		}
	}
	if len(pairs) != 15 {
		t.Errorf("%d pairs of codes", len(pairs))
	}
	m := wide()
	m.Rules[0].Exp = num(1)
	m.Decls = nil
	if code := impl.MachCheck(m); code != impl.MachNames {
		t.Errorf("no declarations, and a rule that is a number: %d", code)
	}
}

// P26: with a rule that is a number MachCheck is MachRule; with one that is true all is as it was.
func TestOneRuleMore(t *testing.T) {
	eachMach(61, 300, func(r *rand.Rand, m impl.Mach) {
		if code := impl.MachCheck(m); code != impl.MachFine {
			t.Fatalf("%v: %d", m, code)
		}
		if len(m.Rules) == impl.RuleMax {
			m.Rules = m.Rules[:impl.RuleMax-1]
		}
		size := impl.MachSize(m)
		m.Rules = append(m.Rules, rule("more", num(1)))
		if code := impl.MachCheck(m); code != impl.MachRule {
			t.Fatalf("%v: %d", m, code)
		}
		m.Rules[len(m.Rules)-1].Exp = yes()
		if code := impl.MachCheck(m); code != impl.MachFine || impl.MachSize(m) != size {
			t.Fatalf("%v: %d", m, code)
		}
	})
}

// Machines with something drawn anew are wrong, or fine, as by hand.
func TestDrawnCodes(t *testing.T) {
	met := map[int]int{}
	eachMach(62, 3000, func(r *rand.Rand, m impl.Mach) {
		for range 1 + r.IntN(2) {
			d := &m.Decls[r.IntN(len(m.Decls))]
			switch r.IntN(8) {
			case 0:
				d.Name = []string{"x", "up", "if", "q", ""}[r.IntN(5)]
			case 1:
				d.Low = r.IntN(4) - 1
			case 2:
				d.High = []int{0, 1, 3, 60, 999, 1000}[r.IntN(6)]
			case 3:
				d.Init = append(d.Init, drawExp(r, 2))
			case 4:
				d.Next = append(d.Next, drawOf(r, m.Decls, 1+r.IntN(2), 3))
			case 5:
				d.Bool = !d.Bool
			case 6:
				m.Rules = append(m.Rules, rule([]string{"p", "low", "new"}[r.IntN(3)], drawOf(r, m.Decls, 1+r.IntN(2), 3)))
			}
		}
		want := checkByHand(m)
		met[want]++
		if code := impl.MachCheck(m); code != want {
			t.Fatalf("%v: %d, want %d", m, code, want)
		}
	})
	for code := impl.MachFine; code <= impl.MachMany; code++ {
		if met[code] < 10 {
			t.Errorf("code %d was met %d times", code, met[code])
		}
	}
}

func TestMachinesAtLimits(t *testing.T) {
	three := numbers("a", 0, 9)
	three.Init = []impl.Exp{num(0), num(1), num(2)}
	three.Next = []impl.Exp{name("a"), name("a"), name("a")}
	big := truths("big")
	big.Init, big.Next = []impl.Exp{sized(impl.SizeMax)}, []impl.Exp{deepAt(impl.ExpDeep, impl.ExpIf, 2)}
	for what, c := range map[string]struct {
		m    impl.Mach
		code int
		size int
	}{
		"one truth":             {impl.Mach{Decls: []impl.Decl{truths("a")}}, 0, 2},
		"one number":            {impl.Mach{Decls: []impl.Decl{numbers("a", 7, 7)}}, 0, 1},
		"number 0":              {impl.Mach{Decls: []impl.Decl{numbers("a", 0, 0)}}, 0, 1},
		"ChoiceMax choices":     {impl.Mach{Decls: []impl.Decl{three}}, 0, 10},
		"great expressions":     {impl.Mach{Decls: []impl.Decl{big}, Rules: []impl.Rule{rule("abcdefgh", sized(impl.SizeMax))}}, 0, 2},
		"StateMax":              {impl.Mach{Decls: []impl.Decl{numbers("a", 0, 499)}}, 0, 500},
		"StateMax, up to 999":   {impl.Mach{Decls: []impl.Decl{numbers("a", 500, 999)}}, 0, 500},
		"one more":              {impl.Mach{Decls: []impl.Decl{numbers("a", 0, 500)}}, 6, 0},
		"one more, up to 999":   {impl.Mach{Decls: []impl.Decl{numbers("a", 499, 999)}}, 6, 0},
		"500 of five":           {impl.Mach{Decls: []impl.Decl{numbers("a", 0, 4), numbers("b", 1, 5), truths("c"), numbers("d", 3, 7), truths("e")}}, 0, 500},
		"501 of two":            {impl.Mach{Decls: []impl.Decl{numbers("a", 0, 2), numbers("b", 0, 166)}}, 6, 0},
		"498 of two":            {impl.Mach{Decls: []impl.Decl{numbers("a", 0, 2), numbers("b", 0, 165)}}, 0, 498},
		"all of five":           {impl.Mach{Decls: []impl.Decl{numbers("a", 0, 999), numbers("b", 0, 999), numbers("c", 0, 999), numbers("d", 0, 999), numbers("e", 0, 999)}}, 6, 0},
		"High is NumMax":        {impl.Mach{Decls: []impl.Decl{numbers("a", 999, 999)}}, 0, 1},
		"High is above NumMax":  {impl.Mach{Decls: []impl.Decl{numbers("a", 999, 1000)}}, 2, 0},
		"names of both":         {impl.Mach{Decls: []impl.Decl{truths("a")}, Rules: []impl.Rule{rule("a", name("a"))}}, 0, 2},
		"a rule's name is long": {impl.Mach{Decls: []impl.Decl{truths("abcdefgh")}, Rules: []impl.Rule{rule("abcdefgh", yes())}}, 0, 2},
		"five and four":         {wide(), 0, 96},
	} {
		if code, size := impl.MachCheck(c.m), impl.MachSize(c.m); code != c.code || size != c.size {
			t.Errorf("%s: %d, %d states, want %d, %d", what, code, size, c.code, c.size)
		}
		want := ""
		if c.code == 0 {
			want = machPutByHand(c.m)
		}
		if text := impl.MachPut(c.m); text != want {
			t.Errorf("%s: %q, want %q", what, text, want)
		}
	}
}

func TestWrongMachines(t *testing.T) {
	for what, m := range wrongMachs() {
		if k := impl.MachKind(m, yes()); k != 0 {
			t.Errorf("%s: kind %d", what, k)
		}
		if n := impl.MachSize(m); n != 0 {
			t.Errorf("%s: size %d", what, n)
		}
		if text := impl.MachPut(m); text != "" {
			t.Errorf("%s: %q", what, text)
		}
	}
}

// P25
func TestMachinesAreReadBack(t *testing.T) {
	read, unread := 0, 0
	eachMach(63, 1500, func(r *rand.Rand, m impl.Mach) {
		text := impl.MachPut(m)
		if want := machPutByHand(m); text != want {
			t.Fatalf("%v: %q, want %q", m, text, want)
		}
		for _, alike := range []string{text, withGaps(r, text), " " + text + "\n\n"} {
			got, ok := impl.MachGet(alike)
			_, fits := tokensByHand(alike)
			if ok != fits {
				t.Fatalf("%q: %v, want %v", alike, ok, fits)
			}
			if !ok {
				unread++
				if !isNoMach(got) {
					t.Fatalf("%v", got)
				}
				continue
			}
			read++
			if !sameMach(got, m) {
				t.Fatalf("%q is read as %v, want %v", alike, got, m)
			}
		}
	})
	if read < 500 || unread < 50 {
		t.Errorf("%d texts are read, %d are not", read, unread)
	}
	if m, ok := impl.MachGet(example); !ok || impl.MachPut(m) != example || !sameMach(m, mustMach(t, example)) {
		t.Errorf("%v", m)
	}
}

func TestTextsOfMachines(t *testing.T) {
	for text, m := range map[string]impl.Mach{
		"var a : bool;\ninit true;\nnext a;\n":                  {Decls: []impl.Decl{truths("a")}},
		"var a : 0..0;\ninit 0;\nnext a;\n":                     {Decls: []impl.Decl{numbers("a", 0, 0)}},
		"var abcdefgh : 500..999;\ninit 500;\nnext abcdefgh;\n": {Decls: []impl.Decl{numbers("abcdefgh", 500, 999)}},
		"var a : 0..1;\ninit 0;\nnext a;\n":                     {Decls: []impl.Decl{numbers("a", 0, 1)}},
		"var a : bool;\ninit true;\nnext a;\nalways a : a;\n":   {Decls: []impl.Decl{truths("a")}, Rules: []impl.Rule{rule("a", name("a"))}},
		"var b : bool;\ninit true;\nnext b;\nvar a : 1..2;\ninit 1;\nnext a;\nalways z : b & a < 2;\nalways y : !b | (if b then b else a = 1);\n": {
			Decls: []impl.Decl{truths("b"), numbers("a", 1, 2)},
			Rules: []impl.Rule{rule("z", two(name("b"), "&", two(name("a"), "<", num(2)))), rule("y", two(not(name("b")), "|", when(name("b"), name("b"), two(name("a"), "=", num(1)))))},
		},
		"var a : 0..9;\ninit 0, if true then 1 else 2, 1 - 2;\nnext a, a + 1, (if a < 5 then 1 else 2) - a;\n": {
			Decls: []impl.Decl{{Name: "a", High: 9, Init: []impl.Exp{num(0), when(yes(), num(1), num(2)), two(num(1), "-", num(2))}, Next: []impl.Exp{name("a"), two(name("a"), "+", num(1)), two(when(two(name("a"), "<", num(5)), num(1), num(2)), "-", name("a"))}}},
		},
	} {
		if put := impl.MachPut(m); put != text {
			t.Errorf("%q, want %q", put, text)
		}
		r := drawer(64)
		tight := withGaps(r, text)
		for _, alike := range []string{text, tight, strings.ReplaceAll(text, "\n", " "), strings.ReplaceAll(text, " ", "\n"), strings.TrimSpace(text)} {
			if got, ok := impl.MachGet(alike); !ok || !sameMach(got, m) {
				t.Errorf("%q is read as %v %v, want %v", alike, got, ok, m)
			}
		}
	}
	for text, want := range map[string]string{
		"var a:bool;init true;next a;":                           "var a : bool;\ninit true;\nnext a;\n",
		"var a:0..5;init(0);next(a);":                            "var a : 0..5;\ninit 0;\nnext a;\n",
		"var a:0 .. 5;init 0;next a;":                            "var a : 0..5;\ninit 0;\nnext a;\n",
		"var a:0\n..\n5;init 0,0;next a,a;always p:((true));":    "var a : 0..5;\ninit 0, 0;\nnext a, a;\nalways p : true;\n",
		"\n var\na\n:\nbool\n;\ninit\ntrue\n;\nnext\n!a\n;\n\n ": "var a : bool;\ninit true;\nnext !a;\n",
	} {
		got, ok := impl.MachGet(text)
		if !ok || impl.MachPut(got) != want {
			t.Errorf("%q is read as %v %v", text, got, ok)
		}
	}
}

func wantNoMach(t *testing.T, text string) {
	t.Helper()
	if got, ok := impl.MachGet(text); ok || !isNoMach(got) {
		t.Errorf("%.200q is read as %v %v", text, got, ok)
	}
	if _, ok := machGetByHand(text); ok {
		t.Errorf("%.200q is read by hand", text)
	}
}

func TestTextsOfNoMachine(t *testing.T) {
	decl := "var a : bool; init true; next a;"
	for _, text := range []string{
		"", " ", "\n", ";", "var", "var a", "var a :", "var a : bool", "var a : bool;", "var a : bool; init true;", "var a : bool; init true; next a",
		"always p : true;", "always p : true; " + decl, decl + ";", decl + " a", decl + " ;", decl + " always", decl + " always p", decl + " always p :", decl + " always p : true", decl + " always p : true; " + strings.ReplaceAll(decl, "a", "b"),
		decl + " always p true;", decl + " always : true;", decl + " always p : ;", decl + " always p : 1;", decl + " always p : true, true;", decl + " always p : lost;", decl + " always if : true;", decl + " always 1 : true;", decl + " always p : true; p", decl + " always p : true;;", decl + " always p : true; always p : true;",
		decl + decl, "a : bool; init true; next a;", "var a bool; init true; next a;", "var : bool; init true; next a;", "var a : ; init true; next a;", "var a : bools; init true; next a;", "var a : bool init true; next a;", "var a : bool; true; next a;", "var a : bool; init true; a;", "var a : bool; next a; init true;", "var a : bool; init true next a;", "var a : bool; init true; next a; next a;", "var a : bool; init true; init true; next a;",
		"var a : bool; init ; next a;", "var a : bool; init true,; next a;", "var a : bool; init ,true; next a;", "var a : bool; init true; next ;", "var a : bool; init true; next a,;", "var a : bool; init true true; next a;", "var a : bool; init a; next a;", "var a : bool; init 1; next a;", "var a : bool; init true; next 1;", "var a : bool; init true; next b;",
		"var a : 0..1 bool; init 0; next a;", "var a : 0; init 0; next a;", "var a : 0..; init 0; next a;", "var a : ..1; init 0; next a;", "var a : 0.1; init 0; next a;", "var a : 0 1; init 0; next a;", "var a : 0,1; init 0; next a;", "var a : 0-1; init 0; next a;", "var a : 0...1; init 0; next a;", "var a : 0. .1; init 0; next a;", "var a : 0..1..2; init 0; next a;", "var a : 00..1; init 0; next a;", "var a : 0..01; init 0; next a;", "var a : 0..100000; init 0; next a;", "var a : 000000..1; init 0; next a;", "var a : -1..1; init 0; next a;", "var a : 0..-1; init 0; next a;", "var a : 1..0; init 1; next a;", "var a : 999..1000; init 999; next a;", "var a : a..b; init 0; next a;", "var a : (0)..(1); init 0; next a;", "var a : 0..1+1; init 0; next a;", "var a : false..true; init 0; next a;",
		"var a : 0..500; init 0; next a;", "var a : 0..5; init true; next a;", "var a : 0..5; init 0; next a < 1;", "var a : 0..5; init 0, 1, 2, 3; next a;", "var a : 0..5; init 0; next a, a, a, a;", "var a : 0..5; init 00; next a;", "var a : 0..5; init 1000; next a;",
		"Var a : bool; init true; next a;", "var A : bool; init true; next a;", "var a1 : bool; init true; next a1;", "var if : bool; init true; next if;", "var abcdefghi : bool; init true; next true;", "var a : bool; init true; next a;\t", "\tvar a : bool; init true; next a;", "var a : bool;\r\ninit true;\r\nnext a;\r\n", "var a : bool; init true; next a; # end", "var a : bool; init true; next a;\x00", "vara : bool; init true; next a;", "var a : bool; inittrue; next a;", "var a : boolinit true; next a;",
	} {
		wantNoMach(t, text)
	}
	for i := range example {
		if text := example[:i]; machineEnds(text) {
			if _, ok := impl.MachGet(text); !ok {
				t.Errorf("%q is not read", text)
			}
		} else {
			wantNoMach(t, text)
		}
		for _, more := range []string{".", "\t", "A", "?", "\xff"} {
			wantNoMach(t, example[:i]+more+example[i:])
		}
	}
	for _, more := range []string{"a", "1", ";", "always", "var", ",", "()", example} {
		wantNoMach(t, example+more)
	}
}

// machineEnds says whether so much of the example is a machine, too: it ends behind a Next that needs nothing more, or behind a rule.
func machineEnds(text string) bool {
	short := strings.TrimRight(text, " \n")
	return strings.HasSuffix(short, ";") && (strings.HasSuffix(short, "else 0;") || strings.Contains(short, "!up;"))
}

// P25: what is read is written, and read as the same; and it is read just if it is one by hand.
func TestDrawnTextsOfMachines(t *testing.T) {
	pieces := []string{"a", "x", "up", "1", "0", "5", "if", "then", "else", "true", "|", "=", "<", "+", "!", "(", ")", "..", ":", ";", ",", "var", "init", "next", "always", "bool"}
	read := 0
	eachMach(65, 4000, func(r *rand.Rand, m impl.Mach) {
		tokens := aToken.FindAllString(machPutByHand(m), -1)
		if len(tokens) > 120 {
			return
		}
		for range 1 + r.IntN(2) {
			at := r.IntN(len(tokens))
			switch r.IntN(8) {
			case 0:
				tokens = slices.Delete(tokens, at, at+1)
			case 1:
				tokens = slices.Insert(tokens, at, pieces[r.IntN(len(pieces))])
			case 2:
				tokens[at] = tokens[r.IntN(len(tokens))]
			case 3:
				tokens[at] = pieces[r.IntN(len(pieces))]
			default:
				tokens[at] = likeIt(r, tokens[at])
			}
		}
		text := strings.Join(tokens, " ")
		got, ok := impl.MachGet(text)
		want, fine := machGetByHand(text)
		if ok != fine || !sameMach(got, want) {
			t.Fatalf("%q is read as %v %v, want %v %v", text, got, ok, want, fine)
		}
		if !ok {
			return
		}
		read++
		put := impl.MachPut(got)
		if again, ok := impl.MachGet(put); !ok || !sameMach(again, got) {
			t.Fatalf("%q is read, written as %q, and not read as the same", text, put)
		}
	})
	if read < 100 {
		t.Errorf("only %d texts were drawn that are machines", read)
	}
}

// likeIt is a token that may often stand where another does.
func likeIt(r *rand.Rand, token string) string {
	for _, alike := range [][]string{{"0", "1", "2", "3", "999", "1000"}, {"|", "&", "="}, {"+", "-"}, {"<", "="}, {"true", "false", "up"}, {"x", "y", "0"}} {
		if slices.Contains(alike, token) {
			return alike[r.IntN(len(alike))]
		}
	}
	return "(" + token + ")"
}

func TestTextsOfMachinesAtLimits(t *testing.T) {
	base := "var a : bool; init true; next a; always p : true"
	bracketed := func(pairs int, more string) string {
		return "var a : bool; init true; next a; always p : " + strings.Repeat("(", pairs) + more + "true" + strings.Repeat(")", pairs) + ";"
	}
	used := len(aToken.FindAllString(base+";", -1))
	most := (impl.TokenMax - used) / 2
	spare := (impl.TokenMax - used) % 2
	exact := bracketed(most, strings.Repeat("!", spare))
	if n := len(aToken.FindAllString(exact, -1)); n != impl.TokenMax {
		t.Fatalf("%d tokens", n)
	}
	if _, ok := impl.MachGet(exact); !ok {
		t.Errorf("TokenMax tokens are not read")
	}
	wantNoMach(t, bracketed(most, strings.Repeat("!", spare+1)))
	wantNoMach(t, bracketed(most+1, ""))
	text := base + ";"
	for size, want := range map[int]bool{impl.TextMax - 1: true, impl.TextMax: true, impl.TextMax + 1: false, 20 * impl.TextMax: false} {
		for _, long := range []string{text + strings.Repeat(" ", size-len(text)), strings.Repeat("\n", size-len(text)) + text, strings.Replace(text, " ", strings.Repeat(" ", size-len(text)+1), 1)} {
			if _, ok := impl.MachGet(long); ok != want || len(long) != size {
				t.Errorf("%d bytes: %v", len(long), ok)
			}
		}
	}
	// DeclMax declarations and RuleMax rules are read, one more is not
	decls, rules := "", ""
	for i := range 7 {
		decls += fmt.Sprintf("var %c : bool; init true; next %c;", 'a'+i, 'a'+i)
		rules += fmt.Sprintf("always %c : true;", 'a'+i)
	}
	one := len(decls) / 7
	per := len(rules) / 7
	for d := range 8 {
		for r := range 8 {
			want := d >= 1 && d <= impl.DeclMax && r <= impl.RuleMax
			if got, ok := impl.MachGet(decls[:d*one] + rules[:r*per]); ok != want || ok && (len(got.Decls) != d || len(got.Rules) != r) {
				t.Errorf("%d declarations, %d rules: %v", d, r, ok)
			}
		}
	}
}

// A machine that is fine may have a text that is too long to be read.
func TestTextsThatAreTooLong(t *testing.T) {
	m := impl.Mach{}
	for _, text := range []string{"aaaaaaaa", "bbbbbbbb", "cccccccc", "dddddddd", "eeeeeeee"} {
		d := truths(text)
		e := name(text)
		for range 5 {
			e = two(e, "&", e)
		}
		e = two(e.Kids[0], "&", two(e.Kids[0].Kids[0], "&", name(text)))
		d.Next = []impl.Exp{e, e, e}
		m.Decls = append(m.Decls, d)
	}
	text := impl.MachPut(m)
	if impl.MachCheck(m) != impl.MachFine || text != machPutByHand(m) || len(text) <= impl.TextMax {
		t.Fatalf("%d, %d bytes", impl.MachCheck(m), len(text))
	}
	wantNoMach(t, text)
	// short names: more than TokenMax tokens in less than TextMax bytes
	for _, d := range m.Decls {
		text = strings.ReplaceAll(text, d.Name, d.Name[:1])
	}
	if len(text) > impl.TextMax || len(aToken.FindAllString(text, -1)) <= impl.TokenMax {
		t.Fatalf("%d bytes, %d tokens", len(text), len(aToken.FindAllString(text, -1)))
	}
	wantNoMach(t, text)
}

// P27
func TestKindsAreThoseOfParts(t *testing.T) {
	met := map[int]int{}
	eachMach(66, 400, func(r *rand.Rand, m impl.Mach) {
		for range 10 {
			e := drawOf(r, m.Decls, 1+r.IntN(2), 1+r.IntN(4))
			if r.IntN(2) == 0 {
				e = changed(r, e)
			}
			if !expOkByHand(e) {
				continue
			}
			kind := impl.MachKind(m, e)
			met[kind]++
			if want := kindByHand(m.Decls, e); kind != want {
				t.Fatalf("%v, %s: %d, want %d", m, showByHand(e), kind, want)
			}
			if n := not(e); expOkByHand(n) && (impl.MachKind(m, n) == 2) != (kind == 2) {
				t.Fatalf("%v, %s: %d", m, showByHand(n), impl.MachKind(m, n))
			}
			if both := two(e, "=", e); expOkByHand(both) && (impl.MachKind(m, both) == 2) != (kind != 0) {
				t.Fatalf("%v, %s: %d", m, showByHand(both), impl.MachKind(m, both))
			}
		}
	})
	if met[0] < 200 || met[1] < 200 || met[2] < 200 {
		t.Errorf("kinds were met %v times", met)
	}
}

func TestKindsOfAllSigns(t *testing.T) {
	m := wide()
	parts := map[int]impl.Exp{0: name("lost"), 1: name("a"), 2: name("b")}
	for left := range 3 {
		for right := range 3 {
			for sign := range binds {
				want := 0
				switch {
				case left == 0 || left != right:
				case sign == "=", sign == "<" && left == 1, sign == "|" && left == 2, sign == "&" && left == 2:
					want = 2
				case (sign == "+" || sign == "-") && left == 1:
					want = 1
				}
				if got := impl.MachKind(m, two(parts[left], sign, parts[right])); got != want {
					t.Errorf("%d %s %d: %d, want %d", left, sign, right, got, want)
				}
			}
			for test := range 3 {
				want := 0
				if test == 2 && left == right {
					want = left
				}
				if got := impl.MachKind(m, when(parts[test], parts[left], parts[right])); got != want {
					t.Errorf("if %d then %d else %d: %d, want %d", test, left, right, got, want)
				}
			}
		}
	}
	for text, want := range map[string]int{"a": 1, "b": 2, "e": 1, "d": 2, "p": 0, "q": 0, "f": 0, "0": 1, "999": 1, "true": 2, "false": 2, "!a": 0, "!b": 2, "!0": 0, "!lost": 0, "!true": 2, "!!b": 2} {
		if got := impl.MachKind(m, mustExp(t, text)); got != want {
			t.Errorf("%s: %d, want %d", text, got, want)
		}
	}
	for what, e := range wrongExps() {
		if got := impl.MachKind(m, e); got != 0 {
			t.Errorf("%s: %d", what, got)
		}
	}
}
