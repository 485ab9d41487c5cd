package tests

import (
	"fmt"
	"math/big"
	"math/rand/v2"
	"slices"
	"strings"

	"loop.example/registrar/impl"
)

// moves is all that a machine may do, by the places of its states: where it begins, where each state leads, and which rules are 1 in it.
type moves struct {
	m      impl.Mach
	states [][]int
	places map[string]int
	first  []int
	next   [][]int
	good   [][]bool
}

func movesOf(m impl.Mach) *moves {
	v := &moves{m: m, states: allStates(m), places: map[string]int{}}
	for p, s := range v.states {
		v.places[fmt.Sprint(s)] = p
	}
	v.first = v.chosen(nil, func(d impl.Decl) []impl.Exp { return d.Init })
	for _, s := range v.states {
		v.next = append(v.next, v.chosen(s, func(d impl.Decl) []impl.Exp { return d.Next }))
		good := []bool{}
		for _, r := range m.Rules {
			good = append(good, valueByHand(m.Decls, s, r.Exp) == 1)
		}
		v.good = append(v.good, good)
	}
	return v
}

// chosen is the places of all states whose each number is what one of its choices is.
func (v *moves) chosen(s []int, choices func(d impl.Decl) []impl.Exp) []int {
	values := [][]int{}
	for _, d := range v.m.Decls {
		of := []int{}
		for _, e := range choices(d) {
			of = append(of, valueByHand(v.m.Decls, s, e))
		}
		values = append(values, of)
	}
	places := []int{}
	for p, next := range v.states {
		fine := true
		for i, n := range next {
			fine = fine && slices.Contains(values[i], n)
		}
		if fine {
			places = append(places, p)
		}
	}
	return places
}

// statesAt is the states at places.
func (v *moves) statesAt(places []int) [][]int {
	states := [][]int{}
	for _, p := range places {
		states = append(states, slices.Clone(v.states[p]))
	}
	return states
}

// far is of each state how many are ahead of it in the shortest way to it, -1 if there is none; shortened for as long as anything can be.
func (v *moves) far() []int {
	far := slices.Repeat([]int{-1}, len(v.states))
	for _, p := range v.first {
		far[p] = 0
	}
	for changed := true; changed; {
		changed = false
		for p := range v.states {
			for _, q := range v.next[p] {
				if far[p] >= 0 && (far[q] < 0 || far[q] > far[p]+1) {
					far[q], changed = far[p]+1, true
				}
			}
		}
	}
	return far
}

// reached is the places of all states in some way, ascending.
func (v *moves) reached() []int {
	places := []int{}
	for p, far := range v.far() {
		if far >= 0 {
			places = append(places, p)
		}
	}
	return places
}

// left is of each state how many steps are left to one where it is to come to, -1 if it comes to none: this goes from the end back.
func (v *moves) left(goal func(p int) bool) []int {
	left := slices.Repeat([]int{-1}, len(v.states))
	for p := range v.states {
		if goal(p) {
			left[p] = 0
		}
	}
	for changed := true; changed; {
		changed = false
		for p := range v.states {
			for _, q := range v.next[p] {
				if left[q] >= 0 && (left[p] < 0 || left[p] > left[q]+1) {
					left[p], changed = left[q]+1, true
				}
			}
		}
	}
	return left
}

// shortest is the shortest way from some states to where it is to come to, of such the first: each time the first state from which no more steps are left than must be; none if there is none.
func (v *moves) shortest(from []int, goal func(p int) bool) []int {
	left := v.left(goal)
	most := -1
	for _, p := range from {
		if left[p] >= 0 && (most < 0 || left[p] < most) {
			most = left[p]
		}
	}
	way := []int{}
	may := from
	for steps := most; steps >= 0; steps-- {
		p := may[slices.IndexFunc(may, func(p int) bool { return left[p] == steps })]
		way = append(way, p)
		may = v.next[p]
	}
	return way
}

// broken is the shortest way to where a rule is 0, of such the first; none if the rule holds.
func (v *moves) broken(rule int) []int {
	return v.shortest(v.first, func(p int) bool { return !v.good[p][rule] })
}

// isWay is what the document says of a way.
func (v *moves) isWay(trace [][]int) bool {
	may := v.first
	for _, s := range trace {
		p, found := v.places[fmt.Sprint(s)]
		if !found || !slices.Contains(may, p) {
			return false
		}
		may = v.next[p]
	}
	return len(trace) > 0
}

// stuck is the places of all states that are come to and lead nowhere.
func (v *moves) stuck() []int {
	return slices.DeleteFunc(v.reached(), func(p int) bool { return len(v.next[p]) > 0 })
}

// walk is the places that numbers pick.
func (v *moves) walk(picks []int) []int {
	way := []int{}
	may := v.first
	for _, pick := range picks {
		if len(may) == 0 {
			break
		}
		at := new(big.Int).Mod(big.NewInt(int64(pick)), big.NewInt(int64(len(may)))).Int64()
		way = append(way, may[at])
		may = v.next[may[at]]
	}
	return way
}

// within says whether no state that is 0 is so near.
func (v *moves) within(rule int, steps int) bool {
	for p, far := range v.far() {
		if far >= 0 && far <= steps && !v.good[p][rule] {
			return false
		}
	}
	return true
}

// inductive goes from where the rule is 0 back, state by state in which it is 1: so many must not be.
func (v *moves) inductive(rule int, states int) bool {
	ends := map[int]bool{}
	for p := range v.states {
		ends[p] = !v.good[p][rule]
	}
	for range states {
		ahead := map[int]bool{}
		for p := range v.states {
			ahead[p] = v.good[p][rule] && slices.ContainsFunc(v.next[p], func(q int) bool { return ends[q] })
		}
		ends = ahead
	}
	for _, some := range ends {
		if some {
			return false
		}
	}
	return true
}

// proves is what the document says of an expression that is a truth.
func (v *moves) proves(rule int, e impl.Exp) bool {
	is := func(p int) bool { return valueByHand(v.m.Decls, v.states[p], e) == 1 }
	isNot := func(p int) bool { return !is(p) }
	for p := range v.states {
		if is(p) && (!v.good[p][rule] || slices.ContainsFunc(v.next[p], isNot)) {
			return false
		}
	}
	return !slices.ContainsFunc(v.first, isNot)
}

func (v *moves) proof(rule int) int {
	for states := 1; states <= 8; states++ {
		if v.inductive(rule, states) {
			if v.within(rule, states-1) {
				return states
			}
			return 0
		}
	}
	return 0
}

// alwaysTokens is what is true of just the states in some way, written without any brackets: each token is a node.
func (v *moves) alwaysTokens() []string {
	texts := []string{}
	for _, p := range v.reached() {
		parts := []string{}
		for i, d := range v.m.Decls {
			n := v.states[p][i]
			switch {
			case !d.Bool:
				parts = append(parts, fmt.Sprintf("%s = %d", d.Name, n))
			case n == 1:
				parts = append(parts, d.Name)
			default:
				parts = append(parts, "! "+d.Name)
			}
		}
		texts = append(texts, strings.Join(parts, " & "))
	}
	if len(texts) == 0 {
		return []string{"false"}
	}
	return strings.Fields(strings.Join(texts, " | "))
}

// always is read by hand; what has more nodes than there may be need not be read.
func (v *moves) always() (impl.Exp, bool) {
	tokens := v.alwaysTokens()
	if len(tokens) > 60 {
		return impl.Exp{}, false
	}
	return readTokens(tokens)
}

// drawGoing draws a machine that goes on for long: its numbers mostly go up or down by a little, and its rules are mostly 0 in just a few states.
func drawGoing(r *rand.Rand) impl.Mach {
	m := impl.Mach{}
	for i := range 1 + r.IntN(3) {
		d := numbers([]string{"x", "y", "up"}[i], r.IntN(3), 0)
		d.High = d.Low + 1 + r.IntN(6)
		if i > 0 && r.IntN(2) == 0 {
			d = truths(d.Name)
		}
		m.Decls = append(m.Decls, d)
	}
	for i, d := range m.Decls {
		m.Decls[i].Init, m.Decls[i].Next = nil, nil
		for range 1 + r.IntN(2) {
			m.Decls[i].Init = append(m.Decls[i].Init, drawAt(r, d))
		}
		for range 1 + r.IntN(3) {
			m.Decls[i].Next = append(m.Decls[i].Next, drawGo(r, m.Decls, d))
		}
	}
	for i := range 1 + r.IntN(impl.RuleMax) {
		m.Rules = append(m.Rules, rule([]string{"p", "q", "low", "x"}[i], drawSeldom(r, m.Decls)))
	}
	return m
}

// drawAt draws what a declaration may be, without names.
func drawAt(r *rand.Rand, d impl.Decl) impl.Exp {
	if d.Bool {
		return []impl.Exp{yes(), no()}[r.IntN(2)]
	}
	return num(d.Low + r.IntN(d.High-d.Low+1))
}

func drawGo(r *rand.Rand, decls []impl.Decl, d impl.Decl) impl.Exp {
	is := name(d.Name)
	test := drawOf(r, decls, 2, 2)
	if d.Bool {
		return []impl.Exp{is, not(is), drawAt(r, d), test, when(test, is, not(is))}[r.IntN(5)]
	}
	up := when(two(is, "<", num(d.High)), two(is, "+", num(1)), drawAt(r, d))
	down := when(two(num(d.Low), "<", is), two(is, "-", num(1)), drawAt(r, d))
	return []impl.Exp{is, up, up, down, when(test, up, is), when(test, up, down), two(is, "+", num(1+r.IntN(3))), drawAt(r, d)}[r.IntN(8)]
}

// drawSeldom draws a truth that is mostly 0 in just a few states.
func drawSeldom(r *rand.Rand, decls []impl.Decl) impl.Exp {
	if r.IntN(4) == 0 {
		return drawFitting(r, decls, 2)
	}
	isAt := func() impl.Exp {
		e := yes()
		for _, d := range decls {
			if r.IntN(4) > 0 {
				e = two(e, "&", two(name(d.Name), "=", drawAt(r, d)))
			}
		}
		return e
	}
	if r.IntN(2) == 0 {
		return not(isAt())
	}
	return not(two(isAt(), "|", isAt()))
}

// eachGoing calls a check with machines of both sorts, and all that they may do.
func eachGoing(seed uint64, times int, check func(r *rand.Rand, v *moves)) {
	r := drawer(seed)
	for i := range times {
		if i%3 == 0 {
			check(r, movesOf(drawMach(r)))
		} else {
			check(r, movesOf(drawGoing(r)))
		}
	}
}

// wrongRules is places at which a machine with so many rules has none.
func wrongRules(many int) []int {
	return []int{-1, many, many + 1, -many - 1, -1 << 63, 1<<63 - 1}
}
