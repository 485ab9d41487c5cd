// Package impl: machines that are described, and what is true of all that they may do.
package impl

import (
	"slices"
	"strconv"
	"strings"
)

// Limits of clauses.
const (
	VarMax    = 60
	ClauseMax = 150
	WideMax   = 8
	TextMax   = 4000
)

// figuresMax is how many figures a number of a text has at most.
const figuresMax = 5

// Cnf is how many variables there are, from 1 on, and clauses: each a list of variables, below 0 if it must not be.
type Cnf struct {
	Vars    int
	Clauses [][]int
}

// lit is a literal: a variable, or its opposite, below 0.
type lit int

func (l lit) opposite() lit {
	return -l
}

func (l lit) variable() int {
	if l < 0 {
		return int(-l)
	}
	return int(l)
}

// isOf compares both ends and does not turn the sign: the least of all numbers has no opposite.
func (l lit) isOf(vars int) bool {
	return l != 0 && int(l) >= -vars && int(l) <= vars
}

func (l lit) holds(model []bool) bool {
	return model[l.variable()-1] == (l > 0)
}

// CnfOk says whether clauses are ok.
func CnfOk(c Cnf) bool {
	if c.Vars < 0 || c.Vars > VarMax || len(c.Clauses) > ClauseMax {
		return false
	}
	return clausesFit(c.Clauses, c.Vars)
}

func clausesFit(clauses [][]int, vars int) bool {
	for _, clause := range clauses {
		if len(clause) > WideMax || !areLits(clause, vars) {
			return false
		}
	}
	return true
}

func areLits(numbers []int, vars int) bool {
	for _, n := range numbers {
		if !lit(n).isOf(vars) {
			return false
		}
	}
	return true
}

// CnfHolds says whether all clauses hold with variables as they are told.
func CnfHolds(c Cnf, model []bool) bool {
	return CnfOk(c) && len(model) == c.Vars && allHold(c.Clauses, model)
}

func allHold(clauses [][]int, model []bool) bool {
	for _, clause := range clauses {
		if !clauseHolds(clause, model) {
			return false
		}
	}
	return true
}

func clauseHolds(clause []int, model []bool) bool {
	for _, n := range clause {
		if lit(n).holds(model) {
			return true
		}
	}
	return false
}

// onceEach is literals in the order of their first places, each once.
func onceEach(clause []int) []lit {
	var once []lit
	for _, n := range clause {
		if !slices.Contains(once, lit(n)) {
			once = append(once, lit(n))
		}
	}
	return once
}

// hasOpposites says whether there is a literal and its opposite.
func hasOpposites(lits []lit) bool {
	for _, l := range lits {
		if slices.Contains(lits, l.opposite()) {
			return true
		}
	}
	return false
}

// canBeTold says whether numbers are literals, none of them there twice, nor with its opposite.
func canBeTold(told []int, vars int) bool {
	if !areLits(told, vars) {
		return false
	}
	once := onceEach(told)
	return len(once) == len(told) && !hasOpposites(once)
}

func numbersOf(lits []lit) []int {
	var numbers []int
	for _, l := range lits {
		numbers = append(numbers, int(l))
	}
	return numbers
}

// board keeps count of clauses while literals are told and taken back.
type board struct {
	clauses [][]lit
	watch   map[lit][]int // places of the clauses that have a literal
	held    []int         // of each clause: how many of its literals are told
	open    []int         // of each clause: how many of its literals have not their opposite told
	told    []lit         // of each variable: what is told of it, or 0
}

func newBoard(vars int, clauses [][]int) *board {
	b := &board{watch: map[lit][]int{}, told: make([]lit, vars+1)}
	for _, clause := range clauses {
		b.add(onceEach(clause))
	}
	return b
}

// add puts a clause, each literal of which is there once, behind the others; some may be told already.
func (b *board) add(clause []lit) {
	place := len(b.clauses)
	held, open := 0, 0
	for _, l := range clause {
		b.watch[l] = append(b.watch[l], place)
		if b.isTold(l) {
			held++
		}
		if !b.isTold(l.opposite()) {
			open++
		}
	}
	b.clauses = append(b.clauses, clause)
	b.held = append(b.held, held)
	b.open = append(b.open, open)
}

func (b *board) isTold(l lit) bool {
	return b.told[l.variable()] == l
}

// tell is for a literal of whose variable nothing is told yet.
func (b *board) tell(l lit) {
	b.told[l.variable()] = l
	for _, place := range b.watch[l] {
		b.held[place]++
	}
	for _, place := range b.watch[l.opposite()] {
		b.open[place]--
	}
}

func (b *board) takeBack(l lit) {
	b.told[l.variable()] = 0
	for _, place := range b.watch[l] {
		b.held[place]--
	}
	for _, place := range b.watch[l.opposite()] {
		b.open[place]++
	}
}

// isDue says whether a clause leaves no choice: none of its literals is told, and at most one still can be.
func (b *board) isDue(place int) bool {
	return b.held[place] == 0 && b.open[place] <= 1
}

// firstDue is the place of the first clause that leaves no choice; -1 if all leave one.
func (b *board) firstDue() int {
	for place := range b.clauses {
		if b.isDue(place) {
			return place
		}
	}
	return -1
}

// lastOpen is the literal of a clause that still can be told; 0 if there is none.
func (b *board) lastOpen(place int) lit {
	for _, l := range b.clauses[place] {
		if !b.isTold(l.opposite()) {
			return l
		}
	}
	return 0
}

// CnfUnits is all that follows at once of what is told, one by one; false if that cannot be.
func CnfUnits(c Cnf, told []int) ([]int, bool) {
	if !CnfOk(c) || !canBeTold(told, c.Vars) {
		return nil, false
	}
	units, ok := unitsOf(newBoard(c.Vars, c.Clauses), onceEach(told))
	return numbersOf(units), ok
}

// unitsOf tells a board of which nothing is told yet what is told, and all that follows at once.
func unitsOf(b *board, told []lit) ([]lit, bool) {
	units := slices.Clone(told)
	for _, l := range told {
		b.tell(l)
	}
	for place := b.firstDue(); place >= 0; place = b.firstDue() {
		l := b.lastOpen(place)
		if l == 0 {
			return nil, false
		}
		b.tell(l)
		units = append(units, l)
	}
	return units, true
}

// CnfLess is clauses without those that hold always, or say no more than others.
func CnfLess(c Cnf) Cnf {
	if !CnfOk(c) {
		return Cnf{}
	}
	tidy := make([][]lit, len(c.Clauses))
	for i, clause := range c.Clauses {
		tidy[i] = onceEach(clause)
		slices.SortFunc(tidy[i], byVariable)
	}
	less := Cnf{Vars: c.Vars}
	for i, clause := range tidy {
		if !hasOpposites(clause) && !saysNoMore(tidy, i) {
			less.Clauses = append(less.Clauses, numbersOf(clause))
		}
	}
	return less
}

func byVariable(a lit, b lit) int {
	return a.variable() - b.variable()
}

// saysNoMore says whether another clause is part of the one at a place; of two that are the same only the later one says no more.
func saysNoMore(clauses [][]lit, place int) bool {
	for i, other := range clauses {
		if i == place || !isPart(other, clauses[place]) {
			continue
		}
		if i < place || !isPart(clauses[place], other) {
			return true
		}
	}
	return false
}

func isPart(part []lit, whole []lit) bool {
	for _, l := range part {
		if !slices.Contains(whole, l) {
			return false
		}
	}
	return true
}

// CnfPut is clauses as a text.
func CnfPut(c Cnf) string {
	if !CnfOk(c) {
		return ""
	}
	var text strings.Builder
	text.WriteString("p cnf " + strconv.Itoa(c.Vars) + " " + strconv.Itoa(len(c.Clauses)) + "\n")
	for _, clause := range c.Clauses {
		for _, n := range clause {
			text.WriteString(strconv.Itoa(n) + " ")
		}
		text.WriteString("0\n")
	}
	return text.String()
}

// CnfGet reads clauses.
func CnfGet(text string) (Cnf, bool) {
	if len(text) > TextMax {
		return Cnf{}, false
	}
	words := wordsOf(text)
	if len(words) < 4 || words[0] != "p" || words[1] != "cnf" {
		return Cnf{}, false
	}
	numbers, fine := readNumbers(words[2:])
	if !fine {
		return Cnf{}, false
	}
	clauses, whole := splitClauses(numbers[2:])
	c := Cnf{Vars: numbers[0], Clauses: clauses}
	if !whole || len(clauses) != numbers[1] || !CnfOk(c) {
		return Cnf{}, false
	}
	return c, true
}

func wordsOf(text string) []string {
	return strings.FieldsFunc(text, isGap)
}

// isGap is for blanks and newlines alone: a tab is part of a word.
func isGap(r rune) bool {
	return r == ' ' || r == '\n'
}

func readNumbers(words []string) ([]int, bool) {
	var numbers []int
	for _, word := range words {
		n, fine := readNumber(word)
		if !fine {
			return nil, false
		}
		numbers = append(numbers, n)
	}
	return numbers, true
}

func readNumber(word string) (int, bool) {
	figures, below := strings.CutPrefix(word, "-")
	n, fine := readFigures(figures)
	if !below {
		return n, fine
	}
	// -0 is no number, as it is not below 0
	return -n, fine && n != 0
}

func readFigures(figures string) (int, bool) {
	if len(figures) < 1 || len(figures) > figuresMax || len(figures) > 1 && figures[0] == '0' {
		return 0, false
	}
	n := 0
	for i := range len(figures) {
		if figures[i] < '0' || figures[i] > '9' {
			return 0, false
		}
		n = n*10 + int(figures[i]-'0')
	}
	return n, true
}

// splitClauses parts numbers behind each 0; false if the last of them is not 0.
func splitClauses(numbers []int) ([][]int, bool) {
	var clauses [][]int
	var clause []int
	whole := true
	for _, n := range numbers {
		whole = n == 0
		if whole {
			clauses = append(clauses, clause)
			clause = nil
		} else {
			clause = append(clause, n)
		}
	}
	return clauses, whole
}
