package tests

import (
	"fmt"
	"math/rand/v2"
	"slices"

	"loop.example/registrar/impl"
)

// askKids tells of each kind how many kids it has.
var askKids = map[int]int{impl.AskIs: 0, impl.AskNot: 1, impl.AskAnd: 2, impl.AskNext: 1, impl.AskOnce: 1, impl.AskStay: 1, impl.AskUntil: 2}

func is(e impl.Exp) impl.Ask {
	return impl.Ask{Kind: impl.AskIs, Exp: e}
}

func ask(kind int, kids ...impl.Ask) impl.Ask {
	return impl.Ask{Kind: kind, Kids: kids}
}

// orOf is what is so if one of two is.
func orOf(a impl.Ask, b impl.Ask) impl.Ask {
	return ask(impl.AskNot, ask(impl.AskAnd, ask(impl.AskNot, a), ask(impl.AskNot, b)))
}

func askNodes(a impl.Ask) int {
	n := 1
	for _, kid := range a.Kids {
		n += askNodes(kid)
	}
	return n
}

func askDepth(a impl.Ask) int {
	deep := 0
	for _, kid := range a.Kids {
		deep = max(deep, askDepth(kid))
	}
	return deep + 1
}

// askOkByHand is what the document says of what may be asked, sentence by sentence; it is for what ends.
func askOkByHand(m impl.Mach, a impl.Ask) bool {
	return checkByHand(m) == 0 && askNodes(a) <= 20 && askDepth(a) <= 8 && askNodesFine(m, a)
}

func askNodesFine(m impl.Mach, a impl.Ask) bool {
	many, found := askKids[a.Kind]
	if !found || len(a.Kids) != many {
		return false
	}
	if a.Kind == 1 && (!expOkByHand(a.Exp) || kindByHand(m.Decls, a.Exp) != 2) {
		return false
	}
	if a.Kind != 1 && !isNoExp(a.Exp) {
		return false
	}
	return !slices.ContainsFunc(a.Kids, func(kid impl.Ask) bool { return !askNodesFine(m, kid) })
}

// askSized is something asked of just so many nodes, and not deep.
func askSized(nodes int, last impl.Ask) impl.Ask {
	switch nodes {
	case 1:
		return last
	case 2:
		return ask(impl.AskOnce, last)
	}
	left := (nodes - 1) / 2
	return ask(impl.AskAnd, askSized(left, last), askSized(nodes-1-left, last))
}

// askDeep is something asked just so deep, all of it at one place among kids of a kind.
func askDeep(deep int, kind int, place int, last impl.Ask) impl.Ask {
	if deep == 1 {
		return last
	}
	kids := []impl.Ask{last, last}[:askKids[kind]]
	kids[place] = askDeep(deep-1, kind, place, last)
	return ask(kind, kids...)
}

// drawAsk draws something that may be asked of some truths, of at most so many nodes.
func drawAsk(r *rand.Rand, truth func() impl.Exp, deep int, nodes int) impl.Ask {
	if deep <= 1 || nodes <= 1 || r.IntN(6) == 0 {
		return is(truth())
	}
	kind := []int{impl.AskNot, impl.AskAnd, impl.AskNext, impl.AskOnce, impl.AskStay, impl.AskStay, impl.AskUntil, impl.AskUntil}[r.IntN(8)]
	if askKids[kind] == 1 {
		return ask(kind, drawAsk(r, truth, deep-1, nodes-1))
	}
	if nodes < 3 {
		return is(truth())
	}
	first := drawAsk(r, truth, deep-1, nodes-2)
	return ask(kind, first, drawAsk(r, truth, deep-1, nodes-1-askNodes(first)))
}

// drawAsked draws something that may be asked of a machine.
func drawAsked(r *rand.Rand, m impl.Mach) impl.Ask {
	truth := func() impl.Exp {
		if r.IntN(3) == 0 {
			return drawFitting(r, m.Decls, 2)
		}
		e := drawSeldom(r, m.Decls)
		if r.IntN(2) == 0 {
			return e
		}
		return not(e)
	}
	return drawAsk(r, truth, 1+r.IntN(4), 20)
}

// drawOfRules draws something that is asked of rules alone; the machine has one at least.
func drawOfRules(r *rand.Rand, m impl.Mach) impl.Ask {
	return drawAsk(r, func() impl.Exp { return m.Rules[r.IntN(len(m.Rules))].Exp }, 8, 20)
}

// net is which states can be come to from which by one step or more, among steps that may be taken.
type net [][]bool

// netOf goes through all states between others, one by one, for steps from states of which something is so to ones of which something is.
func (v *moves) netOf(from func(p int) bool, to func(p int) bool) net {
	n := make(net, len(v.states))
	for p := range n {
		n[p] = make([]bool, len(v.states))
		for _, q := range v.next[p] {
			n[p][q] = from(p) && to(q)
		}
	}
	for mid := range n {
		for p := range n {
			if n[p][mid] {
				for q := range n {
					n[p][q] = n[p][q] || n[mid][q]
				}
			}
		}
	}
	return n
}

// so is of each state whether something is so of it: ways are looked for as the table of kinds says.
func (v *moves) so(a impl.Ask) []bool {
	kids := [][]bool{}
	for _, kid := range a.Kids {
		kids = append(kids, v.so(kid))
	}
	anyOf := func(p int) bool { return true }
	so := make([]bool, len(v.states))
	if a.Kind == impl.AskStay {
		return v.stays(kids[0])
	}
	n := net{}
	switch a.Kind {
	case impl.AskOnce:
		n = v.netOf(anyOf, anyOf)
	case impl.AskUntil:
		n = v.netOf(func(p int) bool { return kids[0][p] }, anyOf)
	}
	for p, s := range v.states {
		switch a.Kind {
		case impl.AskIs:
			so[p] = valueByHand(v.m.Decls, s, a.Exp) == 1
		case impl.AskNot:
			so[p] = !kids[0][p]
		case impl.AskAnd:
			so[p] = kids[0][p] && kids[1][p]
		case impl.AskNext:
			so[p] = slices.ContainsFunc(v.next[p], func(q int) bool { return kids[0][q] })
		case impl.AskOnce:
			so[p] = kids[0][p] || leadsTo(n[p], kids[0])
		case impl.AskUntil:
			so[p] = kids[1][p] || leadsTo(n[p], kids[1])
		}
	}
	return so
}

// stays is of each state whether a whole way from it stays where something is so: it comes to a state that leads nowhere, or to one that it comes to again.
func (v *moves) stays(so []bool) []bool {
	in := func(p int) bool { return so[p] }
	n := v.netOf(in, in)
	goal := make([]bool, len(so))
	for p := range goal {
		goal[p] = so[p] && (len(v.next[p]) == 0 || n[p][p])
	}
	stays := make([]bool, len(so))
	for p := range stays {
		stays[p] = goal[p] || so[p] && leadsTo(n[p], goal)
	}
	return stays
}

func leadsTo(row []bool, goal []bool) bool {
	for q := range row {
		if row[q] && goal[q] {
			return true
		}
	}
	return false
}

// placesOf is where something is so.
func placesOf(so []bool) []int {
	places := []int{}
	for p, is := range so {
		if is {
			places = append(places, p)
		}
	}
	return places
}

// alike is which states are alike, pair by pair: all that have the same rules 1 are, till one of a pair leads where the other does not.
func (v *moves) alike() [][]bool {
	pairs := make([][]bool, len(v.states))
	for p := range pairs {
		for q := range v.states {
			pairs[p] = append(pairs[p], slices.Equal(v.good[p], v.good[q]))
		}
	}
	matched := func(p int, q int) bool {
		for _, next := range v.next[p] {
			if !slices.ContainsFunc(v.next[q], func(other int) bool { return pairs[next][other] }) {
				return false
			}
		}
		return true
	}
	for changed := true; changed; {
		changed = false
		for p := range pairs {
			for q := range pairs {
				if pairs[p][q] && (!matched(p, q) || !matched(q, p)) {
					pairs[p][q], pairs[q][p], changed = false, false, true
				}
			}
		}
	}
	return pairs
}

// classes is the class of each state, numbered by their first states.
func (v *moves) classes() []int {
	pairs := v.alike()
	classes := []int{}
	many := 0
	for p := range pairs {
		first := slices.Index(pairs[p], true)
		if first == p {
			classes = append(classes, many)
			many++
		} else {
			classes = append(classes, classes[first])
		}
	}
	return classes
}

// classSteps is all classes that states of each class lead to, ascending.
func (v *moves) classSteps(classes []int) [][]int {
	steps := make([][]int, slices.Max(classes)+1)
	for to := range steps {
		for from := range steps {
			for p := range v.states {
				if classes[p] == from && slices.ContainsFunc(v.next[p], func(q int) bool { return classes[q] == to }) {
					steps[from] = append(steps[from], to)
					break
				}
			}
		}
	}
	return steps
}

// endlessAsk is something asked that is a part of itself.
func endlessAsk(kind int) impl.Ask {
	kids := make([]impl.Ask, askKids[kind])
	for i := range kids {
		kids[i] = impl.Ask{Kind: kind, Kids: kids}
	}
	return kids[0]
}

// doubledAsk has both kids of each node in the same list again: it has few lists, and very many nodes.
func doubledAsk(deep int, last impl.Ask) impl.Ask {
	a := last
	for range deep {
		a = ask(impl.AskAnd, a, a)
	}
	return a
}

// wrongAsks is what may not be asked of the document's example, each for one reason.
func wrongAsks() map[string]impl.Ask {
	fine := is(two(name("x"), "<", num(3)))
	wrong := map[string]impl.Ask{
		"nothing":                   {},
		"a kind below 0":            {Kind: -1, Kids: []impl.Ask{fine}},
		"kind 0 with a truth":       {Exp: yes()},
		"kind 0 with a kid":         {Kids: []impl.Ask{fine}},
		"a kind past all":           {Kind: 8},
		"a kind past all, of one":   {Kind: 8, Kids: []impl.Ask{fine}},
		"a kind past all, of two":   {Kind: 8, Kids: []impl.Ask{fine, fine}},
		"a kind past all, a truth":  {Kind: 8, Exp: yes()},
		"the least kind":            {Kind: -1 << 63},
		"the greatest kind":         {Kind: 1<<63 - 1, Kids: []impl.Ask{fine}},
		"a number":                  is(num(1)),
		"a name of a number":        is(name("x")),
		"a sum":                     is(two(name("x"), "+", num(1))),
		"an if of numbers":          is(when(name("up"), num(1), num(0))),
		"a name of nothing":         is(name("lost")),
		"a rule's name":             is(name("low")),
		"a name of nothing within":  is(two(name("up"), "|", name("lost"))),
		"a truth of no kind":        is(two(name("up"), "=", name("x"))),
		"no expression":             is(impl.Exp{}),
		"one node too many":         askSized(impl.AskMax+1, fine),
		"many nodes":                askSized(3000, fine),
		"very many nodes":           doubledAsk(40, fine),
		"one too deep":              askDeep(impl.AskDeep+1, impl.AskNot, 0, fine),
		"very deep":                 askDeep(5000, impl.AskStay, 0, fine),
		"one of many kids":          {Kind: impl.AskOnce, Kids: slices.Repeat([]impl.Ask{fine}, 5000)},
		"part of itself, by not":    endlessAsk(impl.AskNot),
		"part of itself, by until":  endlessAsk(impl.AskUntil),
		"wrong in the second of it": ask(impl.AskUntil, fine, is(num(0))),
		"wrong in the first of it":  ask(impl.AskAnd, is(num(0)), fine),
		"wrong far within":          ask(impl.AskNot, ask(impl.AskNext, ask(impl.AskAnd, fine, ask(impl.AskStay, impl.Ask{})))),
	}
	for kind, many := range askKids {
		for kids := range 4 {
			a := impl.Ask{Kind: kind, Kids: []impl.Ask{fine, fine, fine}[:kids]}
			if kind == impl.AskIs {
				a.Exp = yes()
			}
			if kids != many {
				wrong[fmt.Sprintf("kind %d of %d kids", kind, kids)] = a
				continue
			}
			if kind == impl.AskIs {
				continue
			}
			for what, e := range map[string]impl.Exp{"a truth": yes(), "a number": num(3), "a kind": {Kind: -1}, "Num alone": {Num: 1}, "Text alone": {Text: "x"}, "Kids alone": {Kids: []impl.Exp{{}}}, "itself": endless(impl.ExpNot, 1)} {
				a.Exp = e
				wrong[fmt.Sprintf("kind %d with %s", kind, what)] = a
			}
		}
	}
	return wrong
}
