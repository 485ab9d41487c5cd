package tests

import (
	"fmt"
	"math/rand/v2"
	"slices"
	"strings"
	"testing"

	"loop.example/registrar/impl"
)

// bits is a table as a text, a figure for each way.
func bits(table []bool) string {
	text := ""
	for _, so := range table {
		text += map[bool]string{false: "0", true: "1"}[so]
	}
	return text
}

// tableOfBits is the table that a text of figures says.
func tableOfBits(text string) []bool {
	table := []bool{}
	for _, figure := range text {
		table = append(table, figure == '1')
	}
	return table
}

// placing puts nodes by the texts of the parts of a table that they are of: two parts alike, of one variable, are one node.
type placing struct {
	vars  int
	known map[string]int
	nodes []impl.BddNode
}

func (p *placing) place(v int, part string) int {
	if !strings.Contains(part, "1") {
		return 0
	}
	if !strings.Contains(part, "0") {
		return 1
	}
	low, high := part[:len(part)/2], part[len(part)/2:]
	if low == high {
		return p.place(v+1, low)
	}
	key := fmt.Sprint(v, " ", part)
	if at, found := p.known[key]; found {
		return at
	}
	n := impl.BddNode{Var: v, Low: p.place(v+1, low), High: p.place(v+1, high)}
	p.nodes = append(p.nodes, n)
	p.known[key] = len(p.nodes) + 1
	return p.known[key]
}

// diagramByHand is the diagram of a table that has as many ways as there are.
func diagramByHand(vars int, table []bool) impl.Bdd {
	p := &placing{vars: vars, known: map[string]int{}}
	root := p.place(0, bits(table))
	return impl.Bdd{Vars: vars, Nodes: p.nodes, Root: root}
}

// tableByHand goes from Root on, way by way; false where there is nowhere to go.
func tableByHand(b impl.Bdd) ([]bool, bool) {
	table := []bool{}
	for _, way := range models(b.Vars) {
		at := b.Root
		for at != 0 && at != 1 {
			if at < 0 || at-2 >= len(b.Nodes) {
				return nil, false
			}
			n := b.Nodes[at-2]
			if n.Var < 0 || n.Var >= b.Vars {
				return nil, false
			}
			next := n.Low
			if way[n.Var] {
				next = n.High
			}
			// only nodes ahead are gone to, so this ends
			if next >= at {
				return nil, false
			}
			at = next
		}
		table = append(table, at == 1)
	}
	return table, true
}

// diagramOkByHand is what the document says of diagrams, sentence by sentence.
func diagramOkByHand(b impl.Bdd) bool {
	if b.Vars < 0 || b.Vars > 6 || len(b.Nodes) > 64 {
		return false
	}
	for i, n := range b.Nodes {
		if n.Var < 0 || n.Var >= b.Vars {
			return false
		}
		for _, to := range []int{n.Low, n.High} {
			if to == 0 || to == 1 {
				continue
			}
			if to < 0 || to-2 >= i || b.Nodes[to-2].Var <= n.Var {
				return false
			}
		}
	}
	table, fine := tableByHand(b)
	return fine && sameBdd(b, diagramByHand(b.Vars, table))
}

func sameBdd(a impl.Bdd, b impl.Bdd) bool {
	return a.Vars == b.Vars && a.Root == b.Root && slices.Equal(a.Nodes, b.Nodes)
}

func isNoBdd(b impl.Bdd) bool {
	return sameBdd(b, impl.Bdd{})
}

func wantBdd(t *testing.T, what string, got impl.Bdd, want impl.Bdd) {
	t.Helper()
	if !sameBdd(got, want) {
		t.Errorf("%s: %v, want %v", what, got, want)
	}
}

// tableNumbered is the table of so many variables whose figures a number says.
func tableNumbered(vars int, number int) []bool {
	table := make([]bool, 1<<vars)
	for i := range table {
		table[i] = number>>i&1 == 1
	}
	return table
}

// drawTable draws tables of all sorts: some that are the same of nearly all ways, some in which variables make no difference, some whose halves are alike.
func drawTable(r *rand.Rand, vars int) []bool {
	table := make([]bool, 1<<vars)
	often := 1 + r.IntN(8)
	for i := range table {
		table[i] = r.IntN(often) == 0
	}
	for v := range vars {
		if r.IntN(4) > 0 {
			continue
		}
		weight := 1 << (vars - 1 - v)
		turn := r.IntN(3) == 0
		for i := range table {
			if i&weight != 0 {
				table[i] = table[i-weight] != turn
			}
		}
	}
	if r.IntN(20) == 0 {
		for i := range table {
			table[i] = table[0]
		}
	}
	return table
}

// eachTable calls a check with all tables of few variables, and with drawn ones of up to BddVars.
func eachTable(seed uint64, times int, check func(r *rand.Rand, vars int, table []bool)) {
	r := drawer(seed)
	for vars := range 4 {
		for number := range 1 << (1 << vars) {
			check(r, vars, tableNumbered(vars, number))
		}
	}
	for i := range times {
		vars := 3 + i%4
		check(r, vars, drawTable(r, vars))
	}
}

// eachPair calls a check with two tables of the same variables: all pairs of few, and drawn ones.
func eachPair(seed uint64, times int, check func(vars int, a []bool, b []bool)) {
	for vars := range 3 {
		many := 1 << (1 << vars)
		for n := range many * many {
			check(vars, tableNumbered(vars, n/many), tableNumbered(vars, n%many))
		}
	}
	r := drawer(seed)
	for i := range times {
		vars := 3 + i%4
		a, b := drawTable(r, vars), drawTable(r, vars)
		switch r.IntN(8) {
		case 0:
			b = slices.Clone(a)
		case 1:
			b = turnedTable(a)
		}
		check(vars, a, b)
	}
}

func turnedTable(table []bool) []bool {
	other := []bool{}
	for _, so := range table {
		other = append(other, !so)
	}
	return other
}

// between is two tables with a sign between them.
func between(sign string, a []bool, b []bool) []bool {
	table := []bool{}
	for i := range a {
		table = append(table, map[string]bool{"&": a[i] && b[i], "|": a[i] || b[i], "=": a[i] == b[i]}[sign])
	}
	return table
}

// tableWith is a table with a variable told.
func tableWith(vars int, table []bool, v int, so bool) []bool {
	other := []bool{}
	for _, way := range models(vars) {
		way[v] = so
		other = append(other, table[slices.IndexFunc(models(vars), func(o []bool) bool { return slices.Equal(o, way) })])
	}
	return other
}

// trues is how many ways a table has.
func trues(table []bool) int {
	return strings.Count(bits(table), "1")
}

// greatest is a table of six variables whose diagram has as many nodes as any can have: of the third variable on there is one for each part of the table, of the fifth each of the twelve parts that ask it, of the last both.
func greatest() []bool {
	parts := []int{}
	for part := range 16 {
		if part>>2 != part&3 {
			parts = append(parts, part)
		}
	}
	// sixteen parts of four ways: all twelve of those that ask the fifth variable, and four of them again, so that all pairs differ
	parts = append(parts, parts[1], parts[0], parts[3], parts[2])
	table := []bool{}
	for _, part := range parts {
		table = append(table, tableNumbered(2, part)...)
	}
	return table
}

// node is one of a diagram, in short.
func node(v int, low int, high int) impl.BddNode {
	return impl.BddNode{Var: v, Low: low, High: high}
}

// wrongBdds is diagrams that are not ok, each for one reason.
func wrongBdds() map[string]impl.Bdd {
	of := func(vars int, root int, nodes ...impl.BddNode) impl.Bdd {
		return impl.Bdd{Vars: vars, Nodes: nodes, Root: root}
	}
	least, most := -1<<63, 1<<63-1
	wrong := map[string]impl.Bdd{
		"Vars below 0":                      of(-1, 0),
		"least Vars":                        of(least, 1),
		"Vars past BddVars":                 of(7, 0),
		"Vars past BddVars, with a node":    of(7, 2, node(6, 0, 1)),
		"greatest Vars":                     of(most, 1),
		"Vars of 64":                        of(64, 1),
		"Root below 0":                      of(2, -1),
		"Root below 0, with nodes":          of(2, -1, node(1, 0, 1)),
		"least Root":                        of(2, least, node(1, 0, 1)),
		"Root past the end":                 of(2, 3, node(1, 0, 1)),
		"Root past the end, without nodes":  of(2, 2),
		"Root past the end, of nothing":     of(0, 2),
		"greatest Root":                     of(2, most, node(1, 0, 1)),
		"Root 0 with a node":                of(2, 0, node(1, 0, 1)),
		"Root 1 with a node":                of(2, 1, node(1, 0, 1)),
		"Root at another node":              of(2, 2, node(1, 0, 1), node(0, 0, 2)),
		"a node of no variables":            of(0, 2, node(0, 0, 1)),
		"a variable below 0":                of(2, 2, node(-1, 0, 1)),
		"the least variable":                of(2, 2, node(least, 0, 1)),
		"a variable past Vars":              of(2, 2, node(2, 0, 1)),
		"the greatest variable":             of(2, 2, node(most, 0, 1)),
		"a variable past Vars, of six":      of(6, 2, node(6, 0, 1)),
		"Low and High alike":                of(2, 2, node(0, 1, 1)),
		"Low and High alike, never":         of(2, 2, node(0, 0, 0)),
		"Low and High alike, a node":        of(2, 3, node(1, 0, 1), node(0, 2, 2)),
		"Low and High alike, below":         of(2, 3, node(1, 0, 0), node(0, 2, 1)),
		"a node twice":                      of(2, 4, node(1, 0, 1), node(1, 0, 1), node(0, 2, 3)),
		"a node twice, and one needed":      of(2, 4, node(1, 0, 1), node(1, 0, 1), node(0, 0, 2)),
		"a node twice, in other parts":      of(3, 6, node(2, 0, 1), node(2, 0, 1), node(1, 0, 2), node(1, 3, 0), node(0, 4, 5)),
		"a node that nothing comes to":      of(2, 3, node(1, 1, 0), node(0, 0, 1)),
		"a last node that nothing comes to": of(2, 2, node(0, 0, 1), node(1, 0, 1)),
		"a node between that is not needed": of(3, 4, node(2, 0, 1), node(1, 0, 1), node(0, 0, 2)),
		"High ahead of Low":                 of(2, 4, node(1, 0, 1), node(1, 1, 0), node(0, 3, 2)),
		"nodes in another order, deeper":    of(3, 6, node(2, 0, 1), node(2, 1, 0), node(1, 3, 0), node(1, 0, 2), node(0, 4, 5)),
		"Low is itself":                     of(2, 2, node(0, 2, 1)),
		"High is itself":                    of(2, 2, node(0, 1, 2)),
		"Low and High are itself":           of(2, 2, node(0, 2, 2)),
		"Low is a later one":                of(2, 2, node(0, 3, 1), node(1, 0, 1)),
		"High is a later one":               of(2, 2, node(0, 1, 3), node(1, 0, 1)),
		"both are of each other":            of(2, 3, node(0, 0, 3), node(1, 0, 2)),
		"Low below 0":                       of(2, 2, node(0, -1, 1)),
		"High below 0":                      of(2, 2, node(0, 1, -1)),
		"least Low":                         of(2, 2, node(0, least, 1)),
		"least High":                        of(2, 2, node(0, 1, least)),
		"Low past the end":                  of(2, 2, node(0, 3, 1)),
		"High past the end":                 of(2, 2, node(0, 1, 3)),
		"greatest Low":                      of(2, 2, node(0, most, 1)),
		"greatest High":                     of(2, 2, node(0, 1, most)),
		"Low asks the same variable":        of(2, 3, node(1, 0, 1), node(1, 2, 1)),
		"High asks the same variable":       of(2, 3, node(1, 0, 1), node(1, 0, 2)),
		"Low asks an earlier variable":      of(2, 3, node(0, 0, 1), node(1, 2, 1)),
		"High asks an earlier variable":     of(2, 3, node(0, 0, 1), node(1, 0, 2)),
		"wrong where nothing comes to":      of(2, 3, node(0, -1, 9), node(1, 0, 1)),
		"wrong behind Root":                 of(2, 2, node(1, 0, 1), node(0, 7, 2)),
		"just BddNodes nodes":               of(6, 1+impl.BddNodes, chainOf(impl.BddNodes)...),
		"one more than BddNodes":            of(6, 2+impl.BddNodes, chainOf(impl.BddNodes+1)...),
		"very many nodes":                   of(6, 2, slices.Repeat([]impl.BddNode{node(5, 0, 1)}, 5000)...),
	}
	return wrong
}

// chainOf is so many nodes that go on as they must; as so many are needed by no table, it is in no form.
func chainOf(many int) []impl.BddNode {
	nodes := []impl.BddNode{node(5, 0, 1)}
	for len(nodes) < many-1 {
		nodes = append(nodes, node(1+len(nodes)%4, len(nodes)%2, 2))
	}
	return append(nodes, node(0, 2, len(nodes)+1))
}
