package tests

import (
	"fmt"
	"math/rand/v2"
	"slices"
	"testing"

	"loop.example/registrar/impl"
)

// drawer draws the same clauses in every run.
func drawer(seed uint64) *rand.Rand {
	return rand.New(rand.NewPCG(seed, 7))
}

func drawLit(r *rand.Rand, vars int) int {
	n := 1 + r.IntN(vars)
	if r.IntN(2) == 0 {
		return -n
	}
	return n
}

// drawClause may draw a literal twice, or with its opposite, or none.
func drawClause(r *rand.Rand, vars int, wide int) []int {
	clause := []int{}
	if vars == 0 {
		return clause
	}
	for range r.IntN(wide + 1) {
		clause = append(clause, drawLit(r, vars))
	}
	return clause
}

// drawCnf draws clauses of all sorts, of which much follows at once.
func drawCnf(r *rand.Rand, vars int) impl.Cnf {
	c := impl.Cnf{Vars: vars}
	for range r.IntN(4*vars + 2) {
		clause := drawClause(r, vars, 4)
		if len(clause) == 0 && r.IntN(20) > 0 {
			continue
		}
		c.Clauses = append(c.Clauses, clause)
	}
	return c
}

// drawHard draws clauses of three literals, about as many as leave just a few ways: little follows at once, and a solver must go back often.
func drawHard(r *rand.Rand, vars int) impl.Cnf {
	c := impl.Cnf{Vars: vars}
	for range vars * (4 + r.IntN(4)) {
		clause := []int{}
		for _, v := range r.Perm(vars)[:min(3, vars)] {
			clause = append(clause, (v+1)*(1-2*r.IntN(2)))
		}
		c.Clauses = append(c.Clauses, clause)
	}
	return c
}

// drawTold draws literals that can be told.
func drawTold(r *rand.Rand, vars int) []int {
	told := []int{}
	for _, v := range r.Perm(vars) {
		switch r.IntN(5) {
		case 0:
			told = append(told, v+1)
		case 1:
			told = append(told, -v-1)
		}
	}
	return told
}

// eachDrawn calls a check with clauses of 0 to 7 variables, and literals that can be told of them.
func eachDrawn(seed uint64, check func(r *rand.Rand, c impl.Cnf, told []int)) {
	r := drawer(seed)
	for i := range 3000 {
		vars := i % 8
		told := drawTold(r, vars)
		if i%3 == 0 {
			check(r, drawHard(r, vars), told[:min(1, len(told))])
		} else {
			check(r, drawCnf(r, vars), told)
		}
	}
}

func same(a []int, b []int) bool {
	return slices.Equal(a, b)
}

func sameCnf(a impl.Cnf, b impl.Cnf) bool {
	return a.Vars == b.Vars && slices.EqualFunc(a.Clauses, b.Clauses, same)
}

func isNothing(c impl.Cnf) bool {
	return c.Vars == 0 && len(c.Clauses) == 0
}

// with is clauses with more of them behind.
func with(c impl.Cnf, more ...[]int) impl.Cnf {
	return impl.Cnf{Vars: c.Vars, Clauses: append(slices.Clone(c.Clauses), more...)}
}

func turned(lits []int) []int {
	other := []int{}
	for _, l := range lits {
		other = append(other, -l)
	}
	return other
}

// repeated is so many clauses alike.
func repeated(clause []int, times int) [][]int {
	clauses := [][]int{}
	for range times {
		clauses = append(clauses, slices.Clone(clause))
	}
	return clauses
}

// manyOf is so many literals, all of the same variable.
func manyOf(l int, times int) []int {
	lits := []int{}
	for range times {
		lits = append(lits, l)
	}
	return lits
}

// models is all models of so many variables, in the order in which ways are.
func models(vars int) [][]bool {
	all := [][]bool{}
	for n := range 1 << vars {
		model := make([]bool, vars)
		for i := range model {
			model[i] = n>>(vars-1-i)&1 == 1
		}
		all = append(all, model)
	}
	return all
}

func litIs(l int, model []bool) bool {
	if l < 0 {
		return !model[-l-1]
	}
	return model[l-1]
}

func someIs(clause []int, model []bool) bool {
	return slices.ContainsFunc(clause, func(l int) bool { return litIs(l, model) })
}

// waysOf is all ways in which what is told holds, in order, by trying all models.
func waysOf(c impl.Cnf, told []int) [][]bool {
	ways := [][]bool{}
	for _, model := range models(c.Vars) {
		fine := true
		for _, clause := range c.Clauses {
			fine = fine && someIs(clause, model)
		}
		for _, l := range told {
			fine = fine && litIs(l, model)
		}
		if fine {
			ways = append(ways, model)
		}
	}
	return ways
}

// leaves is literals of a clause, each once, that have not their opposite told; false if one of it is told.
func leaves(clause []int, told []int) ([]int, bool) {
	left := []int{}
	for _, l := range clause {
		if slices.Contains(told, l) {
			return nil, false
		}
		if !slices.Contains(told, -l) && !slices.Contains(left, l) {
			left = append(left, l)
		}
	}
	return left, true
}

// unitsByHand is what the document says of CnfUnits, word by word.
func unitsByHand(clauses [][]int, told []int) ([]int, bool) {
	units := slices.Clone(told)
	for {
		found := false
		for _, clause := range clauses {
			left, open := leaves(clause, units)
			if !open || len(left) > 1 {
				continue
			}
			if len(left) == 0 {
				return nil, false
			}
			units = append(units, left[0])
			found = true
			break
		}
		if !found {
			return units, true
		}
	}
}

// wrongCnfs is clauses that are not ok, each for one reason.
func wrongCnfs() map[string]impl.Cnf {
	return map[string]impl.Cnf{
		"vars below 0":     {Vars: -1},
		"vars past VarMax": {Vars: impl.VarMax + 1},
		"many clauses":     {Vars: 1, Clauses: repeated([]int{1}, impl.ClauseMax+1)},
		"wide clause":      {Vars: 9, Clauses: [][]int{{1, 2, 3, 4, 5, 6, 7, 8, 9}}},
		"wide, one twice":  {Vars: 1, Clauses: [][]int{manyOf(1, impl.WideMax+1)}},
		"literal 0":        {Vars: 2, Clauses: [][]int{{1}, {0}}},
		"literal past":     {Vars: 2, Clauses: [][]int{{1, 3}}},
		"literal below":    {Vars: 2, Clauses: [][]int{{-3}}},
		"no variables":     {Vars: 0, Clauses: [][]int{{1}}},
		"least number":     {Vars: 60, Clauses: [][]int{{-1 << 63}}},
		"greatest number":  {Vars: 60, Clauses: [][]int{{1<<63 - 1}}},
	}
}

// wrongTold is literals of two variables that cannot be told.
func wrongTold() [][]int {
	return [][]int{{0}, {3}, {-3}, {1, 1}, {-2, -2}, {1, -1}, {-1, 2, 1}, {-1 << 63}, {1<<63 - 1}, {1, 2, 3}}
}

func wantInts(t *testing.T, what string, got []int, ok bool, want []int, fine bool) {
	t.Helper()
	if !same(got, want) || ok != fine {
		t.Errorf("%s: %v %v, want %v %v", what, got, ok, want, fine)
	}
}

func wantModel(t *testing.T, what string, got []bool, ok bool, want []bool, fine bool) {
	t.Helper()
	if !slices.Equal(got, want) || ok != fine {
		t.Errorf("%s: %v %v, want %v %v", what, got, ok, want, fine)
	}
}

func show(c impl.Cnf, more ...any) string {
	return fmt.Sprint(append([]any{c}, more...)...)
}
