package tests

import (
	"fmt"
	"math/rand/v2"
	"slices"
	"strings"
	"testing"

	"loop.example/registrar/impl"
)

func TestLimitsOfMachinesAreAsTold(t *testing.T) {
	for what, c := range map[string][2]int{
		"NameMax": {impl.NameMax, 8}, "NumMax": {impl.NumMax, 999}, "SizeMax": {impl.SizeMax, 60}, "ExpDeep": {impl.ExpDeep, 12}, "TokenMax": {impl.TokenMax, 400}, "TextMax": {impl.TextMax, 4000},
		"DeclMax": {impl.DeclMax, 5}, "ChoiceMax": {impl.ChoiceMax, 3}, "RuleMax": {impl.RuleMax, 4}, "StateMax": {impl.StateMax, 500},
		"ExpNum": {impl.ExpNum, 1}, "ExpTrue": {impl.ExpTrue, 2}, "ExpFalse": {impl.ExpFalse, 3}, "ExpName": {impl.ExpName, 4}, "ExpNot": {impl.ExpNot, 5}, "ExpTwo": {impl.ExpTwo, 6}, "ExpIf": {impl.ExpIf, 7},
		"MachFine": {impl.MachFine, 0}, "MachNames": {impl.MachNames, 1}, "MachRange": {impl.MachRange, 2}, "MachInit": {impl.MachInit, 3}, "MachNext": {impl.MachNext, 4}, "MachRule": {impl.MachRule, 5}, "MachMany": {impl.MachMany, 6},
	} {
		if c[0] != c[1] {
			t.Errorf("%s is %d, want %d", what, c[0], c[1])
		}
	}
}

// P21
func TestNamesAreLetters(t *testing.T) {
	for size := range impl.NameMax + 3 {
		text := "abcdefghijkl"[:size]
		if got, want := impl.NameOk(text), size >= 1 && size <= impl.NameMax; got != want {
			t.Errorf("%q: %v", text, got)
		}
	}
	for c := range 256 {
		is := c >= 'a' && c <= 'z'
		for _, text := range []string{string([]byte{byte(c)}), "a" + string([]byte{byte(c)}), string([]byte{byte(c)}) + "a", "abc" + string([]byte{byte(c)}) + "efgh"} {
			if impl.NameOk(text) != is {
				t.Errorf("%q: %v", text, !is)
			}
		}
	}
	for _, text := range []string{"é", "ａ", "abcdefgé", "\xff", "a\x00"} {
		if impl.NameOk(text) {
			t.Errorf("%q", text)
		}
	}
}

// P21: none of the words is a name; with one letter less or more it is.
func TestWordsAreNoNames(t *testing.T) {
	for _, word := range words {
		if impl.NameOk(word) || impl.ExpOk(name(word)) || impl.ExpShow(name(word)) != "" || impl.ExpNames(name(word)) != nil {
			t.Errorf("%q is a name", word)
		}
		for _, text := range []string{word + "s", "a" + word, word[1:], word[:len(word)-1]} {
			if !impl.NameOk(text) {
				t.Errorf("%q is no name", text)
			}
		}
		for i := range word {
			if !impl.NameOk(word[i : i+1]) {
				t.Errorf("%q is no name", word[i:i+1])
			}
		}
		if impl.NameOk(strings.ToUpper(word)) {
			t.Errorf("%q is a name", strings.ToUpper(word))
		}
	}
}

// wrongExps is expressions that are not ok, each for one reason.
func wrongExps() map[string]impl.Exp {
	wrong := map[string]impl.Exp{
		"nothing":                  {},
		"kind below 0":             {Kind: -1},
		"kind past all":            {Kind: 8},
		"kind past all, with kids": {Kind: 8, Kids: []impl.Exp{yes()}},
		"least kind":               {Kind: -1 << 63},
		"number below 0":           num(-1),
		"number past NumMax":       num(impl.NumMax + 1),
		"least number":             num(-1 << 63),
		"greatest number":          num(1<<63 - 1),
		"no name":                  name(""),
		"long name":                name("abcdefghi"),
		"name of a great letter":   name("A"),
		"name of a figure":         name("a1"),
		"name with a blank":        name("a "),
		"no sign":                  two(yes(), "", yes()),
		"sign of two":              two(yes(), "||", yes()),
		"sign !":                   two(yes(), "!", yes()),
		"sign (":                   two(yes(), "(", yes()),
		"sign ..":                  two(num(1), "..", num(2)),
		"sign >":                   two(num(1), ">", num(2)),
		"sign with a blank":        two(num(1), "+ ", num(2)),
		"sign that is a word":      two(yes(), "if", yes()),
		"one node too many":        sized(impl.SizeMax + 1),
		"many nodes":               sized(2000),
		"part of itself":           endless(impl.ExpNot, 1),
		"part of itself, twice":    endless(impl.ExpTwo, 2),
		"part of itself, thrice":   endless(impl.ExpIf, 3),
		"very many nodes":          doubled(11, yes()),
		"deep, with few lists":     doubled(200, yes()),
	}
	for kind, many := range map[int]int{impl.ExpNum: 0, impl.ExpTrue: 0, impl.ExpFalse: 0, impl.ExpName: 0, impl.ExpNot: 1, impl.ExpTwo: 2, impl.ExpIf: 3} {
		for kids := range 5 {
			e := impl.Exp{Kind: kind, Text: map[int]string{impl.ExpName: "a", impl.ExpTwo: "="}[kind], Kids: []impl.Exp{no(), yes(), num(1), name("b")}[:kids]}
			if kids != many {
				wrong[fmt.Sprintf("kind %d of %d kids", kind, kids)] = e
				continue
			}
			for _, n := range []int{1, -1} {
				if e.Num = n; kind != impl.ExpNum {
					wrong[fmt.Sprintf("kind %d with the number %d", kind, n)] = e
				}
			}
			e.Num = 0
			for _, text := range []string{"a", "&", " "} {
				if e.Text = text; kind != impl.ExpName && kind != impl.ExpTwo {
					wrong[fmt.Sprintf("kind %d with the text %q", kind, text)] = e
				}
			}
		}
	}
	for kind, many := range map[int]int{impl.ExpNot: 1, impl.ExpTwo: 2, impl.ExpIf: 3} {
		for place := range many {
			wrong[fmt.Sprintf("one too deep, kind %d, kid %d", kind, place)] = deepAt(impl.ExpDeep+1, kind, place)
			e := deepAt(2, kind, place)
			e.Kids[place] = impl.Exp{Kind: impl.ExpTrue, Num: 1}
			wrong[fmt.Sprintf("kid %d of kind %d", place, kind)] = e
		}
	}
	return wrong
}

func TestExpressionsThatAreNotOk(t *testing.T) {
	for what, e := range wrongExps() {
		if impl.ExpOk(e) {
			t.Errorf("%s: is ok", what)
		}
		if text := impl.ExpShow(e); text != "" {
			t.Errorf("%s: %q", what, text)
		}
		if names := impl.ExpNames(e); len(names) != 0 {
			t.Errorf("%s: %v", what, names)
		}
		for place, around := range []impl.Exp{not(e), two(e, "|", yes()), two(num(1), "<", e), when(e, yes(), yes()), when(yes(), e, yes()), when(yes(), yes(), e)} {
			if impl.ExpOk(around) || impl.ExpShow(around) != "" || len(impl.ExpNames(around)) != 0 {
				t.Errorf("%s: is ok at %d", what, place)
			}
		}
	}
}

func TestExpressionsAtLimits(t *testing.T) {
	fine := []impl.Exp{num(0), num(impl.NumMax), name("abcdefgh"), name("z"), sized(impl.SizeMax), sized(impl.SizeMax - 1), doubled(4, num(3))}
	for kind, many := range map[int]int{impl.ExpNot: 1, impl.ExpTwo: 2, impl.ExpIf: 3} {
		for place := range many {
			fine = append(fine, deepAt(impl.ExpDeep, kind, place), deepAt(impl.ExpDeep-1, kind, place))
		}
	}
	for _, e := range fine {
		if !expOkByHand(e) {
			t.Fatalf("%v is not what it is to be", e)
		}
		if !impl.ExpOk(e) {
			t.Errorf("%v is not ok", e)
		}
		text := impl.ExpShow(e)
		if got, ok := impl.ExpRead(text); text != showByHand(e) || !ok || !sameExp(got, e) {
			t.Errorf("%v: %q is read as %v %v", e, text, got, ok)
		}
	}
	if n := nodesIn(sized(impl.SizeMax)); n != impl.SizeMax {
		t.Errorf("%d nodes", n)
	}
}

// P22
func TestExpressionsAreReadBack(t *testing.T) {
	eachExp(51, func(r *rand.Rand, e impl.Exp) {
		if !impl.ExpOk(e) {
			t.Fatalf("%v is not ok", e)
		}
		text := impl.ExpShow(e)
		if want := showByHand(e); text != want {
			t.Fatalf("%v: %q, want %q", e, text, want)
		}
		for _, alike := range []string{text, " " + text, text + "\n", "(" + text + ")", "( (" + text + "\n) )", withGaps(r, text), withGaps(r, "("+text+")"), showAllBrackets(e)} {
			if tokens := aToken.FindAllString(alike, -1); len(tokens) > impl.TokenMax {
				continue
			}
			got, ok := impl.ExpRead(alike)
			if !ok || !sameExp(got, e) {
				t.Fatalf("%q is read as %v %v, want %v", alike, got, ok, e)
			}
		}
	})
}

func TestTextsOfExpressions(t *testing.T) {
	for text, e := range map[string]impl.Exp{
		"0":    num(0),
		"999":  num(999),
		"true": yes(),
		"a":    name("a"),
		"!a":   not(name("a")),
		"!!1":  not(not(num(1))),
		// signs of one level in a row are from the left
		"a | b | c":     two(two(name("a"), "|", name("b")), "|", name("c")),
		"a | (b | c)":   two(name("a"), "|", two(name("b"), "|", name("c"))),
		"a & b & c":     two(two(name("a"), "&", name("b")), "&", name("c")),
		"a = b < c":     two(two(name("a"), "=", name("b")), "<", name("c")),
		"a = (b < c)":   two(name("a"), "=", two(name("b"), "<", name("c"))),
		"a < b = c":     two(two(name("a"), "<", name("b")), "=", name("c")),
		"1 - 2 + 3":     two(two(num(1), "-", num(2)), "+", num(3)),
		"1 - (2 + 3)":   two(num(1), "-", two(num(2), "+", num(3))),
		"1 + (2 - 3)":   two(num(1), "+", two(num(2), "-", num(3))),
		"1 + 2 - 3 + 4": two(two(two(num(1), "+", num(2)), "-", num(3)), "+", num(4)),
		// what binds least inside of what binds more
		"(a | b) & c":       two(two(name("a"), "|", name("b")), "&", name("c")),
		"a & (b | c)":       two(name("a"), "&", two(name("b"), "|", name("c"))),
		"(a | b) + c":       two(two(name("a"), "|", name("b")), "+", name("c")),
		"a - (b & c)":       two(name("a"), "-", two(name("b"), "&", name("c"))),
		"(a = b) - c":       two(two(name("a"), "=", name("b")), "-", name("c")),
		"a + (b < c)":       two(name("a"), "+", two(name("b"), "<", name("c"))),
		"(a & b) = (c & d)": two(two(name("a"), "&", name("b")), "=", two(name("c"), "&", name("d"))),
		// what binds more inside of what binds less
		"a | b & c":                           two(name("a"), "|", two(name("b"), "&", name("c"))),
		"a & b | c":                           two(two(name("a"), "&", name("b")), "|", name("c")),
		"a & b = c":                           two(name("a"), "&", two(name("b"), "=", name("c"))),
		"a + 1 < b - 2 & c | d":               two(two(two(two(name("a"), "+", num(1)), "<", two(name("b"), "-", num(2))), "&", name("c")), "|", name("d")),
		"a | b & c = d + e":                   two(name("a"), "|", two(name("b"), "&", two(name("c"), "=", two(name("d"), "+", name("e"))))),
		"!a | !b":                             two(not(name("a")), "|", not(name("b"))),
		"!(a | b)":                            not(two(name("a"), "|", name("b"))),
		"!(a + b)":                            not(two(name("a"), "+", name("b"))),
		"!a + b":                              two(not(name("a")), "+", name("b")),
		"!(if a then b else c)":               not(when(name("a"), name("b"), name("c"))),
		"(if a then b else c) | d":            two(when(name("a"), name("b"), name("c")), "|", name("d")),
		"d | (if a then b else c)":            two(name("d"), "|", when(name("a"), name("b"), name("c"))),
		"if a then b else c | d":              when(name("a"), name("b"), two(name("c"), "|", name("d"))),
		"if a | b then c else d":              when(two(name("a"), "|", name("b")), name("c"), name("d")),
		"if a then b + 1 else 2":              when(name("a"), two(name("b"), "+", num(1)), num(2)),
		"if !a then !b else !true":            when(not(name("a")), not(name("b")), not(yes())),
		"(if a then 1 else 2) - 3":            two(when(name("a"), num(1), num(2)), "-", num(3)),
		"1 < (if a then 2 else 3)":            two(num(1), "<", when(name("a"), num(2), num(3))),
		"if a then b else if c then d else e": when(name("a"), name("b"), when(name("c"), name("d"), name("e"))),
		"if if a then b else c then d else e": when(when(name("a"), name("b"), name("c")), name("d"), name("e")),
		"if a then if b then c else d else e": when(name("a"), when(name("b"), name("c"), name("d")), name("e")),
		"if if a then b else c then if d then e else f else false":      when(when(name("a"), name("b"), name("c")), when(name("d"), name("e"), name("f")), no()),
		"iff | thens & els = bools + trues":                             two(name("iff"), "|", two(name("thens"), "&", two(name("els"), "=", two(name("bools"), "+", name("trues"))))),
		"(if a then b else c) & (if d then e else f) | (a < b) + 1 < 2": two(two(when(name("a"), name("b"), name("c")), "&", when(name("d"), name("e"), name("f"))), "|", two(two(two(name("a"), "<", name("b")), "+", num(1)), "<", num(2))),
	} {
		if got := impl.ExpShow(e); got != text {
			t.Errorf("%q, want %q", got, text)
		}
		if got, ok := impl.ExpRead(text); !ok || !sameExp(got, e) {
			t.Errorf("%q is read as %v %v", text, got, ok)
		}
		if byHand, ok := readByHand(text); !ok || !sameExp(byHand, e) {
			t.Errorf("%q is read by hand as %v %v", text, byHand, ok)
		}
	}
}

func TestOtherTextsOfExpressions(t *testing.T) {
	for text, want := range map[string]string{
		"((((a))))":                  "a",
		"(1)+(2)":                    "1 + 2",
		"(a & b) | c":                "a & b | c",
		"(a|b)|c":                    "a | b | c",
		"!(a)":                       "!a",
		"(!a)":                       "!a",
		"!(!(a))":                    "!!a",
		"(if a then(b)else(c))":      "if a then b else c",
		"if(a)then(b)else(c)":        "if a then b else c",
		"if1then2else3":              "if 1 then 2 else 3",
		"if!a then!b else!c":         "if !a then !b else !c",
		"1a":                         "",
		"a1":                         "",
		"1+a":                        "1 + a",
		"  a\n\n  &\nb  ":            "a & b",
		"\n\n1\n-\n2\n\n":            "1 - 2",
		"!\n!\n \n a":                "!!a",
		"ifa":                        "ifa",
		"iftrue":                     "iftrue",
		"if a then b else (c) | (d)": "if a then b else c | d",
		"(a)=(b)=(c)":                "a = b = c",
		"a=((b=c))":                  "a = (b = c)",
	} {
		got, ok := impl.ExpRead(text)
		if ok != (want != "") || impl.ExpShow(got) != want {
			t.Errorf("%q is read as %q, want %q", text, impl.ExpShow(got), want)
		}
	}
}

func wantNoExp(t *testing.T, text string) {
	t.Helper()
	if got, ok := impl.ExpRead(text); ok || !isNoExp(got) {
		t.Errorf("%q is read as %v %v", text, got, ok)
	}
}

func TestTextsOfNoExpression(t *testing.T) {
	for _, text := range []string{
		"", " ", "\n", "()", "(", ")", "(a", "a)", "((a)", "(a))", ")a(", "a b", "a 1", "1 a", "1 2", "(a)(b)", "a (b)", "!", "a !", "a!", "!!", "a ! b", "!|", "a | !",
		"|", "| a", "a |", "a | | b", "a || b", "a == b", "a & ", "& a", "a = ", "< a", "a + ", "- a", "-1", "1 - -1", "1 + +1", "+", "a - ", "a > b", "a <= b", "a * b", "a / b", "a ^ b", "a != b", "~a", "a && b",
		"if", "if a", "if a then", "if a then b", "if a then b else", "if then else", "if a else b then c", "if a then b else c else d", "then a", "else", "a then b", "if a if b then c else d", "if a then b else c d",
		"a | if b then c else d", "if a then b else c then", "! if a then b else c", "!if a then b else c", "1 + if a then b else c", "a & if b then c else d",
		"1000", "9999", "99999", "100000", "999999", "00", "01", "007", "0000", "000001", "1_0", "0x1", "1.5", ".5", "5.", "1e3", "99999999999999999999", "18446744073709551617",
		"a..b", "0..5", "..", "a . b", ".", "...", "a, b", "a,", ",", "a;", ";", "a : b", ":", "a := b",
		"A", "aB", "Ab", "a_b", "_", "é", "aé", "\xff", "a\x00", "\x00", "a\tb", "\ta", "a\t", "a\r\n", "\r", "\v", "a\u00a0", "\u2028a", "'a'", "\"a\"", "a # b", "a // b", "[a]", "{a}", "$a", "@",
		"abcdefghi", "a & abcdefghi", "var", "init", "next", "always", "bool", "a | bool", "!next", "if var then a else b", "true true", "true false", "true a",
	} {
		wantNoExp(t, text)
		if _, ok := readByHand(text); ok {
			t.Errorf("%q is read by hand", text)
		}
	}
	for _, word := range words[2:] {
		for _, text := range []string{word, "!" + word, "a & " + word, word + " & a", "(" + word + ")"} {
			wantNoExp(t, text)
		}
	}
	for c := range 256 {
		// only a blank and a newline may stand around
		want := c == ' ' || c == '\n'
		for _, text := range []string{string([]byte{byte(c)}) + "(1)", "(1)" + string([]byte{byte(c)})} {
			if _, ok := impl.ExpRead(text); ok != (want || c == '!' && text[0] == '!') {
				t.Errorf("%q: %v", text, ok)
			}
		}
	}
}

func TestTextsOfExpressionsAtLimits(t *testing.T) {
	brackets := func(pairs int, inner string) string {
		return strings.Repeat("(", pairs) + inner + strings.Repeat(")", pairs)
	}
	most := (impl.TokenMax - 2) / 2
	for text, want := range map[string]string{
		brackets(most, "!a"):                                             "!a",
		brackets(most, "a"):                                              "a",
		brackets(most+1, "a"):                                            "",
		brackets(most, "a&b"):                                            "",
		brackets(most-1, "!a&!a"):                                        "",
		brackets(most-1, "a&!a"):                                         "a & !a",
		"a" + strings.Repeat(" ", impl.TextMax-1):                        "a",
		"a" + strings.Repeat(" ", impl.TextMax):                          "",
		strings.Repeat("\n", impl.TextMax-1) + "a":                       "a",
		strings.Repeat("\n", impl.TextMax) + "a":                         "",
		strings.Repeat(" ", impl.TextMax):                                "",
		"a" + strings.Repeat(" ", impl.TextMax-3) + "&b":                 "a & b",
		"a" + strings.Repeat(" ", impl.TextMax-2) + "&b":                 "",
		strings.Repeat("a", impl.NameMax):                                strings.Repeat("a", impl.NameMax),
		strings.Repeat("a", impl.NameMax+1):                              "",
		strings.Repeat("a", impl.TextMax):                                "",
		strings.Repeat("!", impl.ExpDeep-1) + "a":                        strings.Repeat("!", impl.ExpDeep-1) + "a",
		strings.Repeat("!", impl.ExpDeep) + "a":                          "",
		strings.Repeat("!", impl.TokenMax-1) + "a":                       "",
		strings.Repeat("1+", impl.ExpDeep-1) + "1":                       strings.Repeat("1 + ", impl.ExpDeep-1) + "1",
		strings.Repeat("1+", impl.ExpDeep) + "1":                         "",
		strings.Repeat("a|", impl.TokenMax/2-1) + "a":                    "",
		strings.Repeat("if a then b else ", impl.ExpDeep-1) + "c":        strings.Repeat("if a then b else ", impl.ExpDeep-1) + "c",
		strings.Repeat("if a then b else ", impl.ExpDeep) + "c":          "",
		strings.Repeat("(", impl.TokenMax) + "a":                         "",
		strings.Repeat("(", 200) + "a" + strings.Repeat(")", 199):        "",
		showByHand(sized(impl.SizeMax)):                                  showByHand(sized(impl.SizeMax)),
		showByHand(sized(impl.SizeMax + 1)):                              "",
		showByHand(deepAt(impl.ExpDeep+1, impl.ExpIf, 1)):                "",
		strings.Repeat("a\n&", 40) + strings.Repeat(" ", impl.TextMax*2): "",
	} {
		got, ok := impl.ExpRead(text)
		if ok != (want != "") || impl.ExpShow(got) != want {
			t.Errorf("%.60q, %d bytes, is read as %q %v, want %q", text, len(text), impl.ExpShow(got), ok, want)
		}
		if !ok && !isNoExp(got) {
			t.Errorf("%.60q is read as %v", text, got)
		}
	}
}

// P22: what is read is shown, and read as the same; and it is read just if it is one by hand.
func TestDrawnTextsOfExpressions(t *testing.T) {
	pieces := []string{"a", "b", "1", "0", "if", "then", "else", "true", "|", "&", "=", "<", "+", "-", "!", "(", ")", " ", "\n", "..", "00", "bool", ",", ";"}
	r := drawer(52)
	read := 0
	for i := range 12000 {
		text := ""
		if i%2 == 0 {
			for range 1 + r.IntN(9) {
				text += pieces[r.IntN(len(pieces))] + []string{"", " "}[r.IntN(2)]
			}
		} else {
			tokens := aToken.FindAllString(showByHand(drawExp(r, 3)), -1)
			for range 1 + r.IntN(2) {
				tokens[r.IntN(len(tokens))] = pieces[r.IntN(len(pieces))]
			}
			text = strings.Join(tokens, " ")
		}
		got, ok := impl.ExpRead(text)
		want, fine := readByHand(text)
		if ok != fine || !sameExp(got, want) {
			t.Fatalf("%q is read as %v %v, want %v %v", text, got, ok, want, fine)
		}
		if !ok {
			continue
		}
		read++
		if again, ok := impl.ExpRead(impl.ExpShow(got)); !ok || !sameExp(again, got) {
			t.Fatalf("%q is read as %v, and again as %v", text, got, again)
		}
	}
	if read < 1000 {
		t.Errorf("only %d texts were drawn that are expressions", read)
	}
}

// changed is an expression with one node of it drawn anew.
func changed(r *rand.Rand, e impl.Exp) impl.Exp {
	if len(e.Kids) == 0 || r.IntN(3) == 0 {
		return drawExp(r, 2)
	}
	kids := slices.Clone(e.Kids)
	place := r.IntN(len(kids))
	kids[place] = changed(r, kids[place])
	return impl.Exp{Kind: e.Kind, Num: e.Num, Text: e.Text, Kids: kids}
}

// P23
func TestSameJustIfTextsAre(t *testing.T) {
	alike, other := 0, 0
	eachExp(53, func(r *rand.Rand, e impl.Exp) {
		if !impl.ExpSame(e, e) || !impl.ExpSame(e, copyExps([]impl.Exp{e})[0]) {
			t.Fatalf("%v is not the same as itself", e)
		}
		o := changed(r, e)
		if !expOkByHand(o) {
			return
		}
		want := impl.ExpShow(e) == impl.ExpShow(o)
		if impl.ExpSame(e, o) != want || impl.ExpSame(o, e) != want || sameExp(e, o) != want {
			t.Fatalf("%v and %v: %v", e, o, !want)
		}
		if want {
			alike++
		} else {
			other++
		}
	})
	if alike < 20 || other < 20 {
		t.Errorf("%d alike, %d others", alike, other)
	}
}

func TestSameOfEdges(t *testing.T) {
	for i, c := range []struct {
		a    impl.Exp
		b    impl.Exp
		want bool
	}{
		{impl.Exp{}, impl.Exp{}, true},
		{impl.Exp{Kids: []impl.Exp{}}, impl.Exp{}, true},
		{yes(), impl.Exp{Kind: impl.ExpTrue, Kids: []impl.Exp{}}, true},
		{impl.Exp{Kind: 9, Num: -4, Text: "?", Kids: []impl.Exp{{}, {}}}, impl.Exp{Kind: 9, Num: -4, Text: "?", Kids: []impl.Exp{{}, {}}}, true},
		{yes(), no(), false},
		{num(1), num(2), false},
		{name("a"), name("b"), false},
		{name("a"), impl.Exp{Kind: impl.ExpName, Text: "a", Num: 1}, false},
		{yes(), impl.Exp{Kind: impl.ExpTrue, Kids: []impl.Exp{yes()}}, false},
		{not(yes()), impl.Exp{Kind: impl.ExpNot}, false},
		{two(name("a"), "|", name("b")), two(name("b"), "|", name("a")), false},
		{two(name("a"), "|", name("b")), two(name("a"), "&", name("b")), false},
		{two(name("a"), "|", name("b")), impl.Exp{Kind: impl.ExpTwo, Text: "|", Kids: []impl.Exp{name("a")}}, false},
		{two(two(name("a"), "|", name("b")), "|", name("c")), two(name("a"), "|", two(name("b"), "|", name("c"))), false},
		{when(yes(), num(1), num(2)), when(yes(), num(1), num(3)), false},
		{when(yes(), num(1), num(2)), when(no(), num(1), num(2)), false},
		{sized(500), sized(500), true},
		{sized(500), sized(501), false},
		{deepAt(5000, impl.ExpNot, 0), deepAt(5000, impl.ExpNot, 0), true},
		{deepAt(5000, impl.ExpNot, 0), deepAt(4999, impl.ExpNot, 0), false},
	} {
		if impl.ExpSame(c.a, c.b) != c.want || impl.ExpSame(c.b, c.a) != c.want {
			t.Errorf("%d: %v", i, !c.want)
		}
	}
}

// Expressions may be parts of themselves, or have a part very many times: then, too, there is an answer.
func TestSameOfWhatIsEndless(t *testing.T) {
	for i, c := range []struct {
		a    impl.Exp
		b    impl.Exp
		want bool
	}{
		{endless(impl.ExpNot, 1), endless(impl.ExpNot, 1), true},
		{endless(impl.ExpNot, 2), endless(impl.ExpNot, 3), true},
		{endless(impl.ExpTwo, 4), endless(impl.ExpTwo, 1), true},
		{endless(impl.ExpIf, 1), endless(impl.ExpIf, 5), true},
		{endless(impl.ExpNot, 1), not(endless(impl.ExpNot, 1)), true},
		{endless(impl.ExpNot, 1), endless(impl.ExpTwo, 1), false},
		{endless(impl.ExpNot, 1), deepAt(1000, impl.ExpNot, 0), false},
		{two(endless(impl.ExpNot, 1), "|", yes()), two(endless(impl.ExpNot, 1), "|", no()), false},
		{two(yes(), "|", endless(impl.ExpNot, 1)), two(no(), "|", endless(impl.ExpNot, 1)), false},
		{doubled(100, num(1)), doubled(100, num(1)), true},
		{doubled(100, num(1)), doubled(100, num(2)), false},
		{doubled(100, num(1)), doubled(99, num(1)), false},
	} {
		if impl.ExpSame(c.a, c.b) != c.want || impl.ExpSame(c.b, c.a) != c.want {
			t.Errorf("%d: %v", i, !c.want)
		}
	}
	// two lists that begin at the same place, but are not as long
	long := []impl.Exp{yes(), yes(), yes()}
	a := impl.Exp{Kids: []impl.Exp{{Kids: long[:1]}, {Kids: long[:2]}}}
	b := impl.Exp{Kids: []impl.Exp{{Kids: long[:1]}, {Kids: []impl.Exp{yes(), no()}}}}
	if impl.ExpSame(a, b) || impl.ExpSame(b, a) || !impl.ExpSame(a, a) {
		t.Error("lists that begin at the same place")
	}
	other := []impl.Exp{yes(), no()}
	c := impl.Exp{Kids: []impl.Exp{{Kids: long[:2]}, {Kids: long[:1]}}}
	d := impl.Exp{Kids: []impl.Exp{{Kids: other[:2]}, {Kids: other[:1]}}}
	if impl.ExpSame(c, d) || impl.ExpSame(d, c) {
		t.Error("lists of which only the first parts are the same")
	}
}

// P24
func TestNamesOfTwoAreNamesOfEither(t *testing.T) {
	eachExp(54, func(r *rand.Rand, e impl.Exp) {
		names := impl.ExpNames(e)
		if want := namesByHand(e); !slices.Equal(names, want) {
			t.Fatalf("%v: %v, want %v", e, names, want)
		}
		for i := 1; i < len(names); i++ {
			if names[i-1] >= names[i] {
				t.Fatalf("%v do not ascend", names)
			}
		}
		o := drawExp(r, 3)
		both := two(e, drawSign(r), o)
		if !expOkByHand(both) {
			return
		}
		either := slices.Concat(names, impl.ExpNames(o))
		slices.Sort(either)
		if got := impl.ExpNames(both); !slices.Equal(got, slices.Compact(either)) {
			t.Fatalf("%v: %v, want %v", both, got, either)
		}
	})
}

func TestNamesOfEdges(t *testing.T) {
	for i, c := range []struct {
		e    impl.Exp
		want string
	}{
		{num(3), "[]"},
		{yes(), "[]"},
		{two(num(1), "+", num(2)), "[]"},
		{name("a"), "[a]"},
		{two(name("a"), "=", name("a")), "[a]"},
		{two(name("ab"), "&", two(name("b"), "|", name("a"))), "[a ab b]"},
		{when(name("c"), not(name("b")), name("a")), "[a b c]"},
		{two(two(name("abc"), "-", name("abcd")), "+", name("ab")), "[ab abc abcd]"},
		{not(not(name("zz"))), "[zz]"},
	} {
		if got := fmt.Sprint(impl.ExpNames(c.e)); got != c.want {
			t.Errorf("%d: %s, want %s", i, got, c.want)
		}
	}
	many := name("n")
	for i := range 11 {
		many = two(name(string(rune('z'-i))), "+", many)
	}
	if got := strings.Join(impl.ExpNames(many), ""); got != "npqrstuvwxyz" {
		t.Errorf("%s", got)
	}
}
