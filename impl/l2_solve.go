package impl

import "slices"

// CountMax is how many variables are counted through at most.
const CountMax = 12

// A solver learns at most learnMax clauses, each of at most learnWide literals: with more of them each step costs more than they spare.
const (
	learnMax  = 500
	learnWide = WideMax
)

// cannotBe is what a solver panics with when no choice is left that could be taken back.
type cannotBe struct{}

// solver looks for the first way: it tells the first variable that is not told yet not so, and what follows at once, over and over.
type solver struct {
	board  *board
	trail  []lit       // what is told, in order
	done   int         // how much of the trail has been followed up
	starts []int       // where on the trail each choice stands
	depth  []int       // of each variable that is told: how many choices were made by then
	why    [][]lit     // of each variable that is told: the clause that left nothing else
	learn  func([]lit) // keeps a clause that a clash has shown; nil once there are too many
	known  int         // how many clauses are learned
}

func newSolver(c Cnf) *solver {
	s := &solver{board: newBoard(c.Vars, c.Clauses), depth: make([]int, c.Vars+1), why: make([][]lit, c.Vars+1)}
	s.learn = s.keep
	return s
}

// firstWay is the first way of clauses that are ok, with literals that can be told.
func firstWay(c Cnf, told []int) (way []bool, found bool) {
	defer func() {
		what := recover()
		if what == nil {
			return
		}
		if _, known := what.(cannotBe); !known {
			panic(what)
		}
		way, found = nil, false
	}()
	s := newSolver(c)
	s.begin(told)
	for s.choose() {
		s.settle()
	}
	return s.model(), true
}

// begin tells what is told, and what clauses leave no choice of from the first on.
func (s *solver) begin(told []int) {
	for _, n := range told {
		s.put(lit(n), nil)
	}
	for place := s.board.firstDue(); place >= 0; place = s.board.firstDue() {
		l := s.board.lastOpen(place)
		if l == 0 {
			panic(cannotBe{})
		}
		s.put(l, s.board.clauses[place])
	}
	s.done = len(s.trail)
}

func (s *solver) put(l lit, why []lit) {
	s.trail = append(s.trail, l)
	s.depth[l.variable()] = len(s.starts)
	s.why[l.variable()] = why
	s.board.tell(l)
}

// choose tells the first variable that is not told yet not so; false if all are told. Taking the first one, and it not so, is what makes the way that is found the first.
func (s *solver) choose() bool {
	for v := 1; v < len(s.board.told); v++ {
		if s.board.told[v] == 0 {
			s.starts = append(s.starts, len(s.trail))
			s.put(lit(v).opposite(), nil)
			return true
		}
	}
	return false
}

// settle tells what follows at once, and goes back wherever that cannot be.
func (s *solver) settle() {
	for place := s.spread(); place >= 0; place = s.spread() {
		s.mend(s.board.clauses[place])
	}
}

// spread tells what follows at once; it answers the place of the first clause met that cannot hold any more, or -1.
func (s *solver) spread() int {
	for s.done < len(s.trail) {
		l := s.trail[s.done]
		s.done++
		for _, place := range s.board.watch[l.opposite()] {
			if !s.board.isDue(place) {
				continue
			}
			last := s.board.lastOpen(place)
			if last == 0 {
				return place
			}
			s.put(last, s.board.clauses[place])
		}
	}
	return -1
}

// mend goes back from a clause that cannot hold to where what was wrong first followed, and tells its opposite.
func (s *solver) mend(clash []lit) {
	if len(s.starts) == 0 {
		panic(cannotBe{})
	}
	clause := s.explain(clash)
	s.goBack(s.deepest(clause[1:]))
	s.put(clause[0], clause)
	if s.learn != nil {
		s.learn(clause)
	}
}

// explain is a clause that follows and that the trail breaks, with just one literal, the first, that was told behind the last choice: from the end of the trail back, each that was left no choice gives way to the others of the clause that left it none.
func (s *solver) explain(clash []lit) []lit {
	met := make([]bool, len(s.depth))
	earlier, left := s.meet(clash, met)
	at := s.lastMet(met, len(s.trail))
	for left > 1 {
		more, late := s.meet(s.why[s.trail[at].variable()], met)
		earlier = append(earlier, more...)
		left += late - 1
		at = s.lastMet(met, at)
	}
	return append([]lit{s.trail[at].opposite()}, earlier...)
}

// meet marks variables of a clause: it answers literals told ahead of the last choice, and how many were told behind it, of those not met before. What was told ahead of all choices cannot be otherwise, and is left out.
func (s *solver) meet(clause []lit, met []bool) ([]lit, int) {
	var earlier []lit
	late := 0
	for _, l := range clause {
		v := l.variable()
		if met[v] || s.depth[v] == 0 {
			continue
		}
		met[v] = true
		if s.depth[v] == len(s.starts) {
			late++
		} else {
			earlier = append(earlier, l)
		}
	}
	return earlier, late
}

// lastMet is the last place on the trail, ahead of an end, whose variable is met.
func (s *solver) lastMet(met []bool, end int) int {
	at := end - 1
	for !met[s.trail[at].variable()] {
		at--
	}
	return at
}

func (s *solver) deepest(lits []lit) int {
	deep := 0
	for _, l := range lits {
		deep = max(deep, s.depth[l.variable()])
	}
	return deep
}

// goBack takes back all choices but the first so many, and what followed of them.
func (s *solver) goBack(choices int) {
	start := s.starts[choices]
	for _, l := range s.trail[start:] {
		s.board.takeBack(l)
	}
	s.trail = s.trail[:start]
	s.starts = s.starts[:choices]
	s.done = start
}

// keep learns a clause, unless it is too wide; when there is no room for more, learning is left out from then on.
func (s *solver) keep(clause []lit) {
	if len(clause) > learnWide {
		return
	}
	s.board.add(clause)
	s.known++
	if s.known == learnMax {
		s.learn = nil
	}
}

func (s *solver) model() []bool {
	model := make([]bool, len(s.board.told)-1)
	for i := range model {
		model[i] = s.board.isTold(lit(i + 1))
	}
	return model
}

// Solve is the first of all that clauses leave open, as far as they leave any with what is told: variable by variable not, if it can be.
func Solve(c Cnf, told []int) ([]bool, bool) {
	if !CnfOk(c) || !canBeTold(told, c.Vars) {
		return nil, false
	}
	return firstWay(c, told)
}

// Core is what is left of what is told, one after the other left out, so that it still cannot be.
func Core(c Cnf, told []int) ([]int, bool) {
	if !CnfOk(c) || !canBeTold(told, c.Vars) || hasWay(c, told) {
		return nil, false
	}
	core := append([]int(nil), told...)
	for _, n := range told {
		without := withoutNumber(core, n)
		if !hasWay(c, without) {
			core = without
		}
	}
	return core, true
}

func hasWay(c Cnf, told []int) bool {
	_, found := firstWay(c, told)
	return found
}

func withoutNumber(numbers []int, number int) []int {
	var others []int
	for _, n := range numbers {
		if n != number {
			others = append(others, n)
		}
	}
	return others
}

// Follows says whether a clause follows of clauses.
func Follows(c Cnf, clause []int) bool {
	if !CnfOk(c) || len(clause) > WideMax || !areLits(clause, c.Vars) {
		return false
	}
	lits := onceEach(clause)
	return hasOpposites(lits) || !hasWay(c, numbersOf(oppositesOf(lits)))
}

func oppositesOf(lits []lit) []lit {
	var opposites []lit
	for _, l := range lits {
		opposites = append(opposites, l.opposite())
	}
	return opposites
}

// Count is how many ways there are.
func Count(c Cnf) int {
	if !CnfOk(c) || c.Vars > CountMax {
		return -1
	}
	model := make([]bool, c.Vars)
	count := 0
	for way := range 1 << c.Vars {
		for i := range model {
			model[i] = way>>i&1 == 1
		}
		if allHold(c.Clauses, model) {
			count++
		}
	}
	return count
}

// Backbone is all literals that hold in every way, by variable.
func Backbone(c Cnf) ([]int, bool) {
	if !CnfOk(c) {
		return nil, false
	}
	way, found := firstWay(c, nil)
	if !found {
		return nil, false
	}
	var always []int
	for i, so := range way {
		n := i + 1
		if !so {
			n = -n
		}
		if !hasWay(c, []int{-n}) {
			always = append(always, n)
		}
	}
	return always, true
}

// ProofOk says whether each of a list of clauses follows at once of those ahead of it.
func ProofOk(c Cnf, proof [][]int) bool {
	if !CnfOk(c) || len(proof) > ClauseMax || !clausesFit(proof, c.Vars) {
		return false
	}
	ahead := slices.Clone(c.Clauses)
	for _, clause := range proof {
		if !followsAtOnce(c.Vars, ahead, clause) {
			return false
		}
		ahead = append(ahead, clause)
	}
	return true
}

func followsAtOnce(vars int, ahead [][]int, clause []int) bool {
	lits := onceEach(clause)
	if hasOpposites(lits) {
		return true
	}
	_, open := unitsOf(newBoard(vars, ahead), oppositesOf(lits))
	return !open
}
