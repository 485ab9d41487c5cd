package tests

import (
	"fmt"
	"math/rand/v2"
	"slices"
	"strings"
	"testing"

	"loop.example/registrar/impl"
)

// drawMeaning draws a number that means one of so many nodes, 0 and 1 rather often.
func drawMeaning(r *rand.Rand, nodes int) int {
	if r.IntN(8) == 0 {
		return r.IntN(2)
	}
	return r.IntN(2 * nodes)
}

// drawAnd draws an and, often one that says nothing, or one that is there already.
func drawAnd(r *rand.Rand, nodes int, ands []impl.And) impl.And {
	x := drawMeaning(r, nodes)
	switch k := r.IntN(10); {
	case k == 0:
		return impl.And{A: x, B: x}
	case k == 1:
		return impl.And{A: x, B: x ^ 1}
	case k < 4 && len(ands) > 0:
		and := ands[r.IntN(len(ands))]
		return impl.And{A: and.B, B: and.A}
	}
	return impl.And{A: x, B: drawMeaning(r, nodes)}
}

func drawAig(r *rand.Rand, inputs int, latches int, ands int, bads int) impl.Aig {
	a := impl.Aig{Inputs: inputs}
	first := 1 + inputs + latches
	for i := range ands {
		a.Ands = append(a.Ands, drawAnd(r, first+i, a.Ands))
	}
	for range latches {
		a.Latches = append(a.Latches, impl.Latch{Next: drawMeaning(r, first+ands), Init: r.IntN(2) == 0})
	}
	for range bads {
		a.Bads = append(a.Bads, drawMeaning(r, first+ands))
	}
	return a
}

// eachCircuit calls a check with circuits of all small sizes, and with some that meet every limit.
func eachCircuit(seed uint64, check func(r *rand.Rand, a impl.Aig)) {
	r := drawer(seed)
	for i := range 2000 {
		check(r, drawAig(r, i%4, i/4%4, r.IntN(9), r.IntN(impl.BadMax+1)))
	}
	for range 20 {
		check(r, drawAig(r, impl.InputMax, impl.LatchMax, impl.AndMax, impl.BadMax))
	}
}

func drawBools(r *rand.Rand, many int) []bool {
	so := make([]bool, many)
	for i := range so {
		so[i] = r.IntN(2) == 0
	}
	return so
}

func drawRows(r *rand.Rand, rows int, many int) [][]bool {
	all := [][]bool{}
	for range rows {
		all = append(all, drawBools(r, many))
	}
	return all
}

func nodeCount(a impl.Aig) int {
	return 1 + a.Inputs + len(a.Latches) + len(a.Ands)
}

func andOf(a impl.Aig, node int) (impl.And, bool) {
	i := node - 1 - a.Inputs - len(a.Latches)
	if i < 0 {
		return impl.And{}, false
	}
	return a.Ands[i], true
}

// known is what nodes are, as far as somebody has asked.
type known map[int]bool

// startKnown is node 0, inputs and latches.
func startKnown(latches []bool, inputs []bool) known {
	k := known{0: false}
	for i, so := range slices.Concat(inputs, latches) {
		k[1+i] = so
	}
	return k
}

// ask is whether what a number means is, going down from it.
func (k known) ask(a impl.Aig, meaning int) bool {
	node := meaning / 2
	if _, asked := k[node]; !asked {
		and, _ := andOf(a, node)
		x, y := k.ask(a, and.A), k.ask(a, and.B)
		k[node] = x && y
	}
	return k[node] == (meaning%2 == 0)
}

func valuesByHand(a impl.Aig, latches []bool, inputs []bool) []bool {
	k := startKnown(latches, inputs)
	values := []bool{}
	for node := range nodeCount(a) {
		values = append(values, k.ask(a, 2*node))
	}
	return values
}

func stepByHand(a impl.Aig, latches []bool, inputs []bool) ([]bool, []bool) {
	k := startKnown(latches, inputs)
	next, bads := []bool{}, []bool{}
	for _, latch := range a.Latches {
		next = append(next, k.ask(a, latch.Next))
	}
	for _, bad := range a.Bads {
		bads = append(bads, k.ask(a, bad))
	}
	return next, bads
}

func runByHand(a impl.Aig, inputs [][]bool) int {
	latches := []bool{}
	for _, latch := range a.Latches {
		latches = append(latches, latch.Init)
	}
	for step, row := range inputs {
		if len(row) != a.Inputs {
			return -1
		}
		next, bads := stepByHand(a, latches, row)
		if slices.Contains(bads, true) {
			return step
		}
		latches = next
	}
	return -1
}

// needsByHand puts what is needed in any order, and sorts it.
func needsByHand(a impl.Aig, meanings ...int) []int {
	found := map[int]int{}
	for len(meanings) > 0 {
		node := meanings[0] / 2
		meanings = meanings[1:]
		if found[node] > 0 {
			continue
		}
		found[node] = 1
		if and, is := andOf(a, node); is {
			meanings = append(meanings, and.A, and.B)
		}
	}
	needs := []int{}
	for node := 1; node < nodeCount(a); node++ {
		if found[node] > 0 {
			needs = append(needs, node)
		}
	}
	return needs
}

// lessWordByWord is what the document says of AigLess, word by word: ands keep their numbers until all is known, then those that stay are counted.
func lessWordByWord(a impl.Aig) impl.Aig {
	became := map[int]int{}
	kept := map[int]impl.And{}
	now := func(meaning int) int {
		if to, is := became[meaning/2]; is {
			return to ^ meaning%2
		}
		return meaning
	}
	first := 1 + a.Inputs + len(a.Latches)
	for i, and := range a.Ands {
		node := first + i
		x, y := now(and.A), now(and.B)
		if x > y {
			x, y = y, x
		}
		switch {
		case x == 0 || x/2 == y/2 && x != y:
			became[node] = 0
		case x == 1 || x == y:
			became[node] = y
		default:
			kept[node] = impl.And{A: x, B: y}
			for other := first; other < node; other++ {
				if there, is := kept[other]; is && there == kept[node] {
					delete(kept, node)
					became[node] = 2 * other
				}
			}
		}
	}
	return countLess(a, kept, now)
}

// countLess leaves out what no Next and none of Bads needs, and lets all after it count less.
func countLess(a impl.Aig, kept map[int]impl.And, now func(int) int) impl.Aig {
	whole := impl.Aig{Inputs: a.Inputs, Latches: a.Latches}
	first := 1 + a.Inputs + len(a.Latches)
	for i := range a.Ands {
		whole.Ands = append(whole.Ands, kept[first+i])
	}
	ends := []int{}
	for _, latch := range a.Latches {
		ends = append(ends, now(latch.Next))
	}
	for _, bad := range a.Bads {
		ends = append(ends, now(bad))
	}
	needs := needsByHand(whole, ends...)
	fewer := func(meaning int) int {
		left := 0
		for node := first; node < meaning/2; node++ {
			if !slices.Contains(needs, node) {
				left++
			}
		}
		return meaning - 2*left
	}
	less := impl.Aig{Inputs: a.Inputs}
	for i, and := range whole.Ands {
		if slices.Contains(needs, first+i) {
			less.Ands = append(less.Ands, impl.And{A: fewer(and.A), B: fewer(and.B)})
		}
	}
	for i, latch := range a.Latches {
		less.Latches = append(less.Latches, impl.Latch{Next: fewer(ends[i]), Init: latch.Init})
	}
	for _, end := range ends[len(a.Latches):] {
		less.Bads = append(less.Bads, fewer(end))
	}
	return less
}

func putByHand(a impl.Aig) string {
	text := fmt.Sprintf("aag %d %d %d 0 %d %d\n", nodeCount(a)-1, a.Inputs, len(a.Latches), len(a.Ands), len(a.Bads))
	node := 0
	for range a.Inputs {
		node++
		text += fmt.Sprintf("%d\n", 2*node)
	}
	for _, latch := range a.Latches {
		node++
		text += fmt.Sprintf("%d %d %s\n", 2*node, latch.Next, map[bool]string{true: "1", false: "0"}[latch.Init])
	}
	for _, bad := range a.Bads {
		text += fmt.Sprintf("%d\n", bad)
	}
	for _, and := range a.Ands {
		node++
		text += fmt.Sprintf("%d %d %d\n", 2*node, and.A, and.B)
	}
	return text
}

// getByHand takes the numbers of a text, whatever is between them, and looks whether they are written so.
func getByHand(text string) (impl.Aig, bool) {
	numbers := []int{}
	for _, word := range strings.Fields(text) {
		n := 0
		if _, err := fmt.Sscan(word, &n); err == nil {
			numbers = append(numbers, n)
		}
	}
	take := func() int {
		if len(numbers) == 0 {
			return 0
		}
		n := numbers[0]
		numbers = numbers[1:]
		return n
	}
	take()
	inputs, latches, _, ands, bads := take(), take(), take(), take(), take()
	if max(inputs, latches, ands, bads) > impl.AndMax {
		return impl.Aig{}, false
	}
	a := impl.Aig{Inputs: inputs}
	for range inputs {
		take()
	}
	for range latches {
		take()
		a.Latches = append(a.Latches, impl.Latch{Next: take(), Init: take() == 1})
	}
	for range bads {
		a.Bads = append(a.Bads, take())
	}
	for range ands {
		take()
		a.Ands = append(a.Ands, impl.And{A: take(), B: take()})
	}
	if !okByHand(a) || putByHand(a) != text {
		return impl.Aig{}, false
	}
	return a, true
}

func okByHand(a impl.Aig) bool {
	if a.Inputs < 0 || a.Inputs > 8 || len(a.Latches) > 8 || len(a.Ands) > 40 || len(a.Bads) > 4 {
		return false
	}
	fine := true
	for i, and := range a.Ands {
		past := 2 * (1 + a.Inputs + len(a.Latches) + i)
		fine = fine && and.A >= 0 && and.A < past && and.B >= 0 && and.B < past
	}
	past := 2 * nodeCount(a)
	for _, latch := range a.Latches {
		fine = fine && latch.Next >= 0 && latch.Next < past
	}
	for _, bad := range a.Bads {
		fine = fine && bad >= 0 && bad < past
	}
	return fine
}

// clauseByHand is a clause of some that may be; false if one of it always is.
func clauseByHand(parts ...int) ([]int, bool) {
	clause := []int{}
	for _, m := range parts {
		switch {
		case m == 1:
			return nil, false
		case m > 1 && m%2 == 1:
			clause = append(clause, -(m / 2))
		case m > 1:
			clause = append(clause, m/2)
		}
	}
	return clause, true
}

func cnfByHand(a impl.Aig) impl.Cnf {
	c := impl.Cnf{Vars: nodeCount(a) - 1}
	for i, and := range a.Ands {
		n := 2 * (1 + a.Inputs + len(a.Latches) + i)
		for _, parts := range [][]int{{n + 1, and.A}, {n + 1, and.B}, {n, and.A ^ 1, and.B ^ 1}} {
			if clause, there := clauseByHand(parts...); there {
				c.Clauses = append(c.Clauses, clause)
			}
		}
	}
	return c
}

// canByHand tries all inputs and latches, in the order in which ways are.
func canByHand(a impl.Aig, meaning int) ([]bool, bool) {
	for _, all := range models(a.Inputs + len(a.Latches)) {
		if startKnown(all[a.Inputs:], all[:a.Inputs]).ask(a, meaning) {
			return all, true
		}
	}
	return nil, false
}

func sameAig(a impl.Aig, b impl.Aig) bool {
	return a.Inputs == b.Inputs && slices.Equal(a.Latches, b.Latches) && slices.Equal(a.Ands, b.Ands) && slices.Equal(a.Bads, b.Bads)
}

func isNoAig(a impl.Aig) bool {
	return sameAig(a, impl.Aig{})
}

// pairs is ands, each of two numbers.
func pairs(numbers [][2]int) []impl.And {
	ands := []impl.And{}
	for _, two := range numbers {
		ands = append(ands, impl.And{A: two[0], B: two[1]})
	}
	return ands
}

// manyAnds is so many ands of two inputs.
func manyAnds(many int) []impl.And {
	ands := []impl.And{}
	for range many {
		ands = append(ands, impl.And{A: 2, B: 4})
	}
	return ands
}

// wrongAigs is circuits that are not ok, each for one reason.
func wrongAigs() map[string]impl.Aig {
	const least, greatest = -1 << 63, 1<<63 - 1
	two := func(ands ...impl.And) impl.Aig { return impl.Aig{Inputs: 2, Ands: ands} }
	return map[string]impl.Aig{
		"inputs below 0":          {Inputs: -1},
		"inputs past InputMax":    {Inputs: impl.InputMax + 1},
		"least inputs":            {Inputs: least},
		"greatest inputs":         {Inputs: greatest},
		"greatest inputs and and": {Inputs: greatest, Ands: manyAnds(1)},
		"many latches":            {Latches: make([]impl.Latch, impl.LatchMax+1)},
		"many ands":               {Inputs: 2, Ands: manyAnds(impl.AndMax + 1)},
		"many bads":               {Bads: make([]int, impl.BadMax+1)},
		"A is itself":             two(impl.And{A: 6, B: 2}),
		"A is its own opposite":   two(impl.And{A: 7, B: 2}),
		"B is itself":             two(impl.And{A: 2, B: 6}),
		"B is its own opposite":   two(impl.And{A: 2, B: 7}),
		"A is behind":             two(impl.And{A: 8, B: 2}, impl.And{A: 2, B: 4}),
		"B is behind":             two(impl.And{A: 2, B: 8}, impl.And{A: 2, B: 4}),
		"A below 0":               two(impl.And{A: -1, B: 2}),
		"B below 0":               two(impl.And{A: 2, B: -1}),
		"A just below 0":          two(impl.And{A: -2, B: 2}),
		"least A":                 two(impl.And{A: least, B: 2}),
		"greatest B":              two(impl.And{A: 2, B: greatest}),
		"the later and":           two(impl.And{A: 2, B: 4}, impl.And{A: 2, B: 8}),
		"next past all":           {Inputs: 1, Latches: []impl.Latch{{Next: 6}}},
		"the later next":          {Inputs: 1, Latches: []impl.Latch{{Next: 5}, {Next: 8}}},
		"next below 0":            {Inputs: 1, Latches: []impl.Latch{{Next: -1}}},
		"least next":              {Inputs: 1, Latches: []impl.Latch{{Next: least}}},
		"greatest next":           {Inputs: 1, Latches: []impl.Latch{{Next: greatest}}},
		"bad past all":            {Inputs: 1, Bads: []int{4}},
		"the later bad":           {Inputs: 1, Bads: []int{3, 5}},
		"bad below 0":             {Inputs: 1, Bads: []int{-1}},
		"least bad":               {Inputs: 1, Bads: []int{least}},
		"greatest bad":            {Inputs: 1, Bads: []int{greatest}},
		"bad with no nodes":       {Bads: []int{2}},
	}
}

func wantBools(t *testing.T, what string, got []bool, want []bool) {
	t.Helper()
	if !slices.Equal(got, want) {
		t.Errorf("%s: %v, want %v", what, got, want)
	}
}

func wantAig(t *testing.T, what string, got impl.Aig, want impl.Aig) {
	t.Helper()
	if !sameAig(got, want) {
		t.Errorf("%s: %v, want %v", what, got, want)
	}
}
