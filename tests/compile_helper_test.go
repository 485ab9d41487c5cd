package tests

import (
	"fmt"
	"math/rand/v2"
	"regexp"
	"slices"
	"strings"

	"loop.example/registrar/impl"
)

// making is a circuit as it is made of a machine, by the document's words, with all ands that say nothing.
type making struct {
	a     impl.Aig
	decls []impl.Decl
	ahead int // the most ands that were ahead of an expression
}

func (k *making) and(x int, y int) int {
	k.a.Ands = append(k.a.Ands, impl.And{A: x, B: y})
	return 2 * (nodeCount(k.a) - 1)
}

// when is if X then Y else Z.
func (k *making) when(x int, y int, z int) int {
	one := k.and(x, y)
	other := k.and(x^1, z)
	return k.and(one^1, other^1) ^ 1
}

func (k *making) exp(e impl.Exp) int {
	k.ahead = max(k.ahead, len(k.a.Ands))
	kids := []int{}
	for _, kid := range e.Kids {
		kids = append(kids, k.exp(kid))
	}
	switch e.Kind {
	case impl.ExpTrue:
		return 1
	case impl.ExpName:
		place := slices.IndexFunc(k.decls, func(d impl.Decl) bool { return d.Name == e.Text })
		return 2 + 2*k.a.Inputs + 2*place
	case impl.ExpNot:
		return kids[0] ^ 1
	case impl.ExpIf:
		return k.when(kids[0], kids[1], kids[2])
	}
	switch e.Text {
	case "&":
		return k.and(kids[0], kids[1])
	case "|":
		return k.and(kids[0]^1, kids[1]^1) ^ 1
	case "=":
		return k.when(kids[0], kids[1], kids[1]^1)
	}
	return 0
}

func hasNumber(e impl.Exp) bool {
	return e.Kind == impl.ExpNum || slices.ContainsFunc(e.Kids, hasNumber)
}

// fitsCircuit says whether a machine that is fine is one of which a circuit can be made.
func fitsCircuit(m impl.Mach) bool {
	for _, d := range m.Decls {
		if !d.Bool || len(d.Init) > 1 || len(d.Next) > 2 || slices.ContainsFunc(d.Next, hasNumber) {
			return false
		}
	}
	return !slices.ContainsFunc(m.Rules, func(r impl.Rule) bool { return hasNumber(r.Exp) })
}

// madeOf is all ands of a machine of which a circuit can be made, as they come.
func madeOf(m impl.Mach) *making {
	k := &making{decls: m.Decls, a: impl.Aig{Latches: make([]impl.Latch, len(m.Decls))}}
	for _, d := range m.Decls {
		k.a.Inputs += len(d.Next) - 1
	}
	input := 0
	for i, d := range m.Decls {
		nexts := []int{}
		for _, e := range d.Next {
			nexts = append(nexts, k.exp(e))
		}
		next := nexts[0]
		if len(nexts) == 2 {
			input += 2
			next = k.when(input, nexts[1], nexts[0])
		}
		k.a.Latches[i] = impl.Latch{Next: next, Init: valueByHand(nil, nil, d.Init[0]) == 1}
	}
	for _, r := range m.Rules {
		k.a.Bads = append(k.a.Bads, k.exp(r.Exp)^1)
	}
	return k
}

func compileByHand(m impl.Mach) (impl.Aig, bool) {
	if checkByHand(m) != 0 || !fitsCircuit(m) {
		return impl.Aig{}, false
	}
	k := madeOf(m)
	if k.ahead > 320 {
		return impl.Aig{}, false
	}
	less := lessWordByWord(k.a)
	if !okByHand(less) {
		return impl.Aig{}, false
	}
	return less, true
}

// drawTruth draws a truth without numbers.
func drawTruth(r *rand.Rand, decls []impl.Decl, deep int) impl.Exp {
	if deep <= 1 || r.IntN(5) == 0 {
		if r.IntN(6) == 0 {
			return []impl.Exp{yes(), no()}[r.IntN(2)]
		}
		return name(decls[r.IntN(len(decls))].Name)
	}
	part := func() impl.Exp { return drawTruth(r, decls, deep-1) }
	switch r.IntN(7) {
	case 0, 1:
		return not(part())
	case 2:
		return when(part(), part(), part())
	}
	return two(part(), []string{"|", "&", "="}[r.IntN(3)], part())
}

func drawTruthFitting(r *rand.Rand, decls []impl.Decl, deep int) impl.Exp {
	for {
		if e := drawTruth(r, decls, deep); nodesIn(e) <= impl.SizeMax {
			return e
		}
	}
}

// drawTruths draws a machine of truths, of so many declarations and rules; its expressions are at most so deep.
func drawTruths(r *rand.Rand, decls int, rules int, deep int) impl.Mach {
	m := impl.Mach{}
	for i := range decls {
		m.Decls = append(m.Decls, truths([]string{"b", "a", "up", "abcdefgh", "p"}[i]))
	}
	for i := range m.Decls {
		m.Decls[i].Init = []impl.Exp{drawFitting(r, nil, 2)}
		m.Decls[i].Next = nil
		for range 1 + r.IntN(2) {
			m.Decls[i].Next = append(m.Decls[i].Next, drawTruthFitting(r, m.Decls, 1+r.IntN(deep)))
		}
	}
	for i := range rules {
		m.Rules = append(m.Rules, rule([]string{"p", "q", "a", "low"}[i], drawTruthFitting(r, m.Decls, 1+r.IntN(deep))))
	}
	return m
}

// eachTruths calls a check with machines of truths of all sizes, most of which have a circuit.
func eachTruths(seed uint64, times int, check func(r *rand.Rand, m impl.Mach)) {
	r := drawer(seed)
	for i := range times {
		check(r, drawTruths(r, 1+i%impl.DeclMax, i/impl.DeclMax%(impl.RuleMax+1), 1+r.IntN(7)))
	}
}

// ofSigns is an expression of just so many signs between two, at most 29, and not deep; all that they are between is true.
func ofSigns(sign string, many int) impl.Exp {
	if many == 0 {
		return yes()
	}
	left := (many - 1) / 2
	return two(ofSigns(sign, left), sign, ofSigns(sign, many-1-left))
}

func ofAnds(many int) impl.Exp {
	return ofSigns("&", many)
}

// numbersOfBools is truths as a state has them.
func numbersOfBools(so []bool) []int {
	numbers := []int{}
	for _, is := range so {
		numbers = append(numbers, map[bool]int{true: 1, false: 0}[is])
	}
	return numbers
}

func boolsOfNumbers(numbers []int) []bool {
	so := []bool{}
	for _, n := range numbers {
		so = append(so, n == 1)
	}
	return so
}

// unrollByHand is what the document says of Unroll, sentence by sentence.
func unrollByHand(a impl.Aig, steps int) (impl.Cnf, bool) {
	nodes := nodeCount(a) - 1
	if !okByHand(a) || steps < 1 || steps > 60 || steps*nodes > 60 {
		return impl.Cnf{}, false
	}
	c := impl.Cnf{Vars: steps * nodes}
	// lit is for what is neither never nor always
	lit := func(step int, meaning int) int {
		return (meaning/2 + step*nodes) * (1 - meaning%2*2)
	}
	for step := range steps {
		for i, latch := range a.Latches {
			it := 1 + a.Inputs + i + step*nodes
			switch {
			case step == 0 && latch.Init || step > 0 && latch.Next == 1:
				c.Clauses = append(c.Clauses, []int{it})
			case step == 0 || latch.Next == 0:
				c.Clauses = append(c.Clauses, []int{-it})
			default:
				that := lit(step-1, latch.Next)
				c.Clauses = append(c.Clauses, []int{-it, that}, []int{it, -that})
			}
		}
		for _, clause := range cnfByHand(a).Clauses {
			moved := []int{}
			for _, l := range clause {
				moved = append(moved, lit(step, max(2*l, 1-2*l)))
			}
			c.Clauses = append(c.Clauses, moved)
		}
	}
	if !slices.Contains(a.Bads, 1) {
		bads := []int{}
		for _, bad := range a.Bads {
			if bad != 0 {
				bads = append(bads, lit(steps-1, bad))
			}
		}
		c.Clauses = append(c.Clauses, bads)
	}
	if len(c.Clauses) > 150 {
		return impl.Cnf{}, false
	}
	return c, true
}

// runModel is all nodes of a run, step by step, without node 0; and whether something is bad in its last step.
func runModel(a impl.Aig, rows [][]bool) ([]bool, bool) {
	model, bad := []bool{}, false
	latches := []bool{}
	for _, latch := range a.Latches {
		latches = append(latches, latch.Init)
	}
	for _, row := range rows {
		model = append(model, valuesByHand(a, latches, row)[1:]...)
		next, bads := stepByHand(a, latches, row)
		latches, bad = next, slices.Contains(bads, true)
	}
	return model, bad
}

// rowsOf is the inputs of each step, as a model of clauses of so many steps has them.
func rowsOf(a impl.Aig, steps int, model []bool) [][]bool {
	rows := [][]bool{}
	for step := range steps {
		at := step * (nodeCount(a) - 1)
		rows = append(rows, model[at:at+a.Inputs])
	}
	return rows
}

// canEndBad says whether so many steps can end with something bad, from the latches that each step may lead to.
func canEndBad(a impl.Aig, steps int) bool {
	open := map[string][]bool{}
	inits := []bool{}
	for _, latch := range a.Latches {
		inits = append(inits, latch.Init)
	}
	open[fmt.Sprint(inits)] = inits
	for step := range steps {
		later := map[string][]bool{}
		for _, latches := range open {
			for _, row := range models(a.Inputs) {
				next, bads := stepByHand(a, latches, row)
				if step == steps-1 && slices.Contains(bads, true) {
					return true
				}
				later[fmt.Sprint(next)] = next
			}
		}
		open = later
	}
	return false
}

var aWord = regexp.MustCompile(`[^ \n]+`)

var aNumber = regexp.MustCompile(`^(0|-?[1-9][0-9]{0,4})$`)

// answerByHand is what a line is answered by, of a machine that is fine.
func answerByHand(v *moves, line string) string {
	words := aWord.FindAllString(line, -1)
	switch {
	case len(words) == 2 && words[0] == "check":
		return checkAnswerByHand(v, words[1])
	case len(words) == 1 && words[0] == "reach":
		return fmt.Sprintf("%d of %d\n", len(v.reached()), len(v.states))
	case len(words) == 1 && words[0] == "stuck":
		return "stuck\n" + v.shown(v.stuck())
	case len(words) > 0 && words[0] == "walk":
		picks := []int{}
		for _, word := range words[1:] {
			n := -1
			if aNumber.MatchString(word) {
				fmt.Sscan(word, &n)
			}
			picks = append(picks, n)
		}
		if len(picks) > 40 {
			return "walk\n"
		}
		return "walk\n" + v.shown(v.walk(picks))
	case len(words) == 1 && words[0] == "circuit":
		if a, ok := compileByHand(v.m); ok {
			return putByHand(a)
		}
		return "no circuit\n"
	}
	return "what\n"
}

func checkAnswerByHand(v *moves, text string) string {
	for i, r := range v.m.Rules {
		if r.Name != text {
			continue
		}
		if way := v.broken(i); len(way) > 0 {
			return "broken\n" + v.shown(way)
		}
		if by := v.proof(i); by > 0 {
			return fmt.Sprintf("holds by %d\n", by)
		}
		return "holds\n"
	}
	return "no rule\n"
}

// shown is states at places, a line each.
func (v *moves) shown(places []int) string {
	text := ""
	for _, s := range v.statesAt(places) {
		parts := []string{}
		for i, d := range v.m.Decls {
			parts = append(parts, fmt.Sprintf("%s=%d", d.Name, s[i]))
		}
		text += "  " + strings.Join(parts, " ") + "\n"
	}
	return text
}

func sessionByHand(text string, lines []string) string {
	m, ok := machGetByHand(text)
	if !ok {
		return "no machine\n"
	}
	v := movesOf(m)
	told := machPutByHand(m)
	for i, line := range lines {
		if i < 30 {
			told += answerByHand(v, line)
		}
	}
	return told
}

// drawLine draws a line that asks for something, or nearly does.
func drawLine(r *rand.Rand, m impl.Mach) string {
	words := []string{[]string{"check", "check", "reach", "stuck", "walk", "walk", "circuit", "what", "Reach", ""}[r.IntN(10)]}
	switch words[0] {
	case "check":
		for _, d := range m.Rules {
			if len(words) == 1 && r.IntN(2) == 0 {
				words = append(words, d.Name)
			}
		}
		if r.IntN(8) == 0 {
			words = append(words, []string{"lost", "p", "7", "check"}[r.IntN(4)])
		}
	case "walk":
		for range r.IntN(8) {
			words = append(words, drawNumberWord(r))
		}
	default:
		if r.IntN(10) == 0 {
			words = append(words, "reach")
		}
	}
	gaps := []string{" ", " ", "  ", "\n", " \n "}
	line := ""
	for i, word := range words {
		if i > 0 || r.IntN(3) == 0 {
			line += gaps[r.IntN(len(gaps))]
		}
		line += word
	}
	return line + []string{"", "", "", " ", "\n", "\t"}[r.IntN(6)]
}

// drawNumberWord draws a number, or a word that is nearly one.
func drawNumberWord(r *rand.Rand) string {
	return []string{
		fmt.Sprint(r.IntN(4)), fmt.Sprint(r.IntN(100000)), fmt.Sprint(-r.IntN(4)), fmt.Sprint(-r.IntN(100000)), fmt.Sprint(100000 + r.IntN(1000)),
		"-0", "00", "007", "+1", "-", "x", "1.0", "1e3", "--1", "0x1", "99999", "-99999", "1\t2",
	}[r.IntN(18)]
}
