package tests

import (
	"fmt"
	"math/rand/v2"
	"regexp"
	"slices"
	"sort"
	"strconv"
	"strings"
	"testing"

	"loop.example/registrar/impl"
)

// words is all letters that are no names.
var words = []string{"true", "false", "if", "then", "else", "var", "init", "next", "always", "bool"}

// binds tells of each sign how much it binds.
var binds = map[string]int{"|": 1, "&": 2, "=": 3, "<": 3, "+": 4, "-": 4}

func num(n int) impl.Exp {
	return impl.Exp{Kind: impl.ExpNum, Num: n}
}

func yes() impl.Exp {
	return impl.Exp{Kind: impl.ExpTrue}
}

func no() impl.Exp {
	return impl.Exp{Kind: impl.ExpFalse}
}

func name(text string) impl.Exp {
	return impl.Exp{Kind: impl.ExpName, Text: text}
}

func not(e impl.Exp) impl.Exp {
	return impl.Exp{Kind: impl.ExpNot, Kids: []impl.Exp{e}}
}

func two(left impl.Exp, sign string, right impl.Exp) impl.Exp {
	return impl.Exp{Kind: impl.ExpTwo, Text: sign, Kids: []impl.Exp{left, right}}
}

func when(test impl.Exp, then impl.Exp, other impl.Exp) impl.Exp {
	return impl.Exp{Kind: impl.ExpIf, Kids: []impl.Exp{test, then, other}}
}

// sized is an expression of just so many nodes, and not deep.
func sized(nodes int) impl.Exp {
	switch nodes {
	case 1:
		return yes()
	case 2:
		return not(yes())
	}
	left := (nodes - 1) / 2
	return two(sized(left), "&", sized(nodes-1-left))
}

// deepAt is an expression just so deep, all of it at one place among kids of a kind.
func deepAt(deep int, kind int, place int) impl.Exp {
	if deep == 1 {
		return yes()
	}
	kids := []impl.Exp{yes(), yes(), yes()}[:map[int]int{impl.ExpNot: 1, impl.ExpTwo: 2, impl.ExpIf: 3}[kind]]
	kids[place] = deepAt(deep-1, kind, place)
	e := impl.Exp{Kind: kind, Kids: kids}
	if kind == impl.ExpTwo {
		e.Text = "|"
	}
	return e
}

func nodesIn(e impl.Exp) int {
	n := 1
	for _, kid := range e.Kids {
		n += nodesIn(kid)
	}
	return n
}

// drawExp draws an expression of any kinds, at most so deep; it may have more nodes than an expression that is ok.
func drawExp(r *rand.Rand, deep int) impl.Exp {
	if deep <= 1 || r.IntN(5) == 0 {
		return []impl.Exp{num(r.IntN(1000)), num(r.IntN(3)), yes(), no(), name("a"), name("b"), name(string(rune('a' + r.IntN(26)))), name("abcdefgh"), name("bools"), name("i")}[r.IntN(10)]
	}
	switch r.IntN(6) {
	case 0:
		return not(drawExp(r, deep-1))
	case 1:
		return when(drawExp(r, deep-1), drawExp(r, deep-1), drawExp(r, deep-1))
	}
	return two(drawExp(r, deep-1), drawSign(r), drawExp(r, deep-1))
}

func drawSign(r *rand.Rand) string {
	return []string{"|", "&", "=", "<", "+", "-"}[r.IntN(6)]
}

// eachExp calls a check with expressions that are ok.
func eachExp(seed uint64, check func(r *rand.Rand, e impl.Exp)) {
	r := drawer(seed)
	for i := range 4000 {
		if e := drawExp(r, 1+i%6); nodesIn(e) <= impl.SizeMax {
			check(r, e)
		}
	}
}

func sameExp(a impl.Exp, b impl.Exp) bool {
	return a.Kind == b.Kind && a.Num == b.Num && a.Text == b.Text && slices.EqualFunc(a.Kids, b.Kids, sameExp)
}

func isNoExp(e impl.Exp) bool {
	return sameExp(e, impl.Exp{})
}

// expOkByHand is what the document says of expressions, kind by kind.
func expOkByHand(e impl.Exp) bool {
	return !isDeeper(e, impl.ExpDeep) && nodesFine(e) && nodesIn(e) <= impl.SizeMax
}

// isDeeper goes no deeper than it must, as an expression may be a part of itself.
func isDeeper(e impl.Exp, most int) bool {
	return most == 0 || slices.ContainsFunc(e.Kids, func(kid impl.Exp) bool { return isDeeper(kid, most-1) })
}

func nodesFine(e impl.Exp) bool {
	for _, kid := range e.Kids {
		if !nodesFine(kid) {
			return false
		}
	}
	num, text, kids := e.Num == 0, e.Text == "", 0
	switch e.Kind {
	case 1:
		num = e.Num >= 0 && e.Num < 1000
	case 2, 3:
	case 4:
		text = regexp.MustCompile(`^[a-z]{1,8}$`).MatchString(e.Text) && !slices.Contains(words, e.Text)
	case 5:
		kids = 1
	case 6:
		text, kids = binds[e.Text] > 0, 2
	case 7:
		kids = 3
	default:
		return false
	}
	return num && text && len(e.Kids) == kids
}

// bindsByHand is how much an expression binds: an if least, what has no sign between two most.
func bindsByHand(e impl.Exp) int {
	switch e.Kind {
	case impl.ExpTwo:
		return binds[e.Text]
	case impl.ExpIf:
		return 0
	}
	return 5
}

// showByHand is an expression that is ok as a text, by the document's words.
func showByHand(e impl.Exp) string {
	switch e.Kind {
	case impl.ExpNum:
		return fmt.Sprint(e.Num)
	case impl.ExpTrue:
		return "true"
	case impl.ExpFalse:
		return "false"
	case impl.ExpName:
		return e.Text
	case impl.ExpNot:
		text := showByHand(e.Kids[0])
		if k := e.Kids[0].Kind; k == impl.ExpTwo || k == impl.ExpIf {
			text = "(" + text + ")"
		}
		return "!" + text
	case impl.ExpIf:
		return fmt.Sprintf("if %s then %s else %s", showByHand(e.Kids[0]), showByHand(e.Kids[1]), showByHand(e.Kids[2]))
	}
	left, right := showByHand(e.Kids[0]), showByHand(e.Kids[1])
	if bindsByHand(e.Kids[0]) < bindsByHand(e) {
		left = "(" + left + ")"
	}
	if !(bindsByHand(e.Kids[1]) > bindsByHand(e)) {
		right = "(" + right + ")"
	}
	return left + " " + e.Text + " " + right
}

// showAllBrackets is an expression with brackets around each part.
func showAllBrackets(e impl.Exp) string {
	parts := []any{}
	for _, kid := range e.Kids {
		parts = append(parts, showAllBrackets(kid))
	}
	switch e.Kind {
	case impl.ExpNot:
		return fmt.Sprintf("(!%s)", parts...)
	case impl.ExpTwo:
		return fmt.Sprintf("(%s"+e.Text+"%s)", parts...)
	case impl.ExpIf:
		return fmt.Sprintf("(if%sthen%selse%s)", parts...)
	}
	return "(" + showByHand(e) + ")"
}

var aToken = regexp.MustCompile(`[a-z]+|[0-9]+|\.\.|[|&=<+\-!(),:;]`)

// tokensByHand is the tokens of a text; false if there is anything else, or too much.
func tokensByHand(text string) ([]string, bool) {
	tokens := aToken.FindAllString(text, -1)
	rest := strings.Trim(aToken.ReplaceAllString(text, ""), " \n")
	return tokens, rest == "" && len(text) <= 4000 && len(tokens) <= 400
}

// withGaps puts blanks and newlines between tokens, and around them; only where two would be one it must.
func withGaps(r *rand.Rand, text string) string {
	tokens := aToken.FindAllString(text, -1)
	gaps := []string{"", "", " ", "\n", "  ", " \n ", "\n\n"}
	spread := gaps[r.IntN(len(gaps))]
	for i, token := range tokens {
		gap := gaps[r.IntN(len(gaps))]
		if i+1 < len(tokens) && len(aToken.FindString(token+tokens[i+1])) > len(token) && gap == "" {
			gap = "\n"
		}
		spread += token + gap
	}
	return spread
}

// reading reads expressions from some of the tokens, trying each place where they could be parted.
type reading struct {
	tokens []string
	known  map[[3]int]*impl.Exp
}

// part is tokens from a place up to another as an expression of a level; nil if they are none.
func (d *reading) part(level int, from int, to int) *impl.Exp {
	key := [3]int{level, from, to}
	if e, known := d.known[key]; known {
		return e
	}
	e := d.split(level, from, to)
	d.known[key] = e
	return e
}

func (d *reading) split(level int, from int, to int) *impl.Exp {
	switch {
	case from >= to:
		return nil
	case level == 0 && d.tokens[from] == "if":
		return d.splitIf(from, to)
	case level == 5:
		return d.last(from, to)
	}
	for at := to - 1; level > 0 && at > from; at-- {
		if binds[d.tokens[at]] != level {
			continue
		}
		left, right := d.part(level, from, at), d.part(level+1, at+1, to)
		if left != nil && right != nil {
			e := two(*left, d.tokens[at], *right)
			return &e
		}
	}
	return d.part(level+1, from, to)
}

func (d *reading) splitIf(from int, to int) *impl.Exp {
	for then := from; then < to; then++ {
		if d.tokens[then] != "then" {
			continue
		}
		for other := then; other < to; other++ {
			if d.tokens[other] != "else" {
				continue
			}
			x, y, z := d.part(0, from+1, then), d.part(0, then+1, other), d.part(0, other+1, to)
			if x != nil && y != nil && z != nil {
				e := when(*x, *y, *z)
				return &e
			}
		}
	}
	return nil
}

func (d *reading) last(from int, to int) *impl.Exp {
	if d.tokens[from] == "!" {
		if inner := d.part(5, from+1, to); inner != nil {
			e := not(*inner)
			return &e
		}
		return nil
	}
	if d.tokens[from] == "(" && d.tokens[to-1] == ")" {
		return d.part(0, from+1, to-1)
	}
	if to != from+1 {
		return nil
	}
	e := name(d.tokens[from])
	switch token := d.tokens[from]; {
	case token == "true":
		e = yes()
	case token == "false":
		e = no()
	case regexp.MustCompile(`^(0|[1-9][0-9]{0,4})$`).MatchString(token):
		n, _ := strconv.Atoi(token)
		e = num(n)
	}
	if !nodesFine(e) {
		return nil
	}
	return &e
}

// readTokens is all of some tokens as an expression that is ok.
func readTokens(tokens []string) (impl.Exp, bool) {
	d := &reading{tokens: tokens, known: map[[3]int]*impl.Exp{}}
	e := d.part(0, 0, len(tokens))
	if e == nil || !expOkByHand(*e) {
		return impl.Exp{}, false
	}
	return *e, true
}

func readByHand(text string) (impl.Exp, bool) {
	tokens, fine := tokensByHand(text)
	if !fine {
		return impl.Exp{}, false
	}
	return readTokens(tokens)
}

// namesByHand is all names, from what is between other signs in the text.
func namesByHand(e impl.Exp) []string {
	found := map[string]bool{}
	for _, word := range regexp.MustCompile(`[a-z]+`).FindAllString(showByHand(e), -1) {
		if !slices.Contains(words, word) {
			found[word] = true
		}
	}
	names := []string{}
	for word := range found {
		names = append(names, word)
	}
	sort.Strings(names)
	return names
}

// kindByHand is the kind of an expression that is ok, sentence by sentence.
func kindByHand(decls []impl.Decl, e impl.Exp) int {
	kinds := ""
	for _, kid := range e.Kids {
		kinds += fmt.Sprint(kindByHand(decls, kid))
	}
	switch e.Kind {
	case impl.ExpNum:
		return 1
	case impl.ExpTrue, impl.ExpFalse:
		return 2
	case impl.ExpName:
		for _, d := range decls {
			if d.Name == e.Text && d.Bool {
				return 2
			}
			if d.Name == e.Text {
				return 1
			}
		}
		return 0
	}
	return map[string]int{
		"!2": 2, "+11": 1, "-11": 1, "|22": 2, "&22": 2, "=11": 2, "=22": 2, "<11": 2, "if211": 1, "if222": 2,
	}[map[int]string{impl.ExpNot: "!", impl.ExpIf: "if"}[e.Kind]+e.Text+kinds]
}

// valueByHand is what an expression that has a kind is in a state.
func valueByHand(decls []impl.Decl, s []int, e impl.Exp) int {
	v := []int{}
	for _, kid := range e.Kids {
		v = append(v, valueByHand(decls, s, kid))
	}
	so := false
	switch e.Kind {
	case impl.ExpNum:
		return e.Num
	case impl.ExpName:
		return s[slices.IndexFunc(decls, func(d impl.Decl) bool { return d.Name == e.Text })]
	case impl.ExpIf:
		if v[0] == 1 {
			return v[1]
		}
		return v[2]
	case impl.ExpTrue:
		so = true
	case impl.ExpNot:
		so = v[0] == 0
	case impl.ExpTwo:
		switch e.Text {
		case "+":
			return v[0] + v[1]
		case "-":
			return v[0] - v[1]
		case "|":
			so = v[0] == 1 || v[1] == 1
		case "&":
			so = v[0] == 1 && v[1] == 1
		case "=":
			so = v[0] == v[1]
		case "<":
			so = v[0] < v[1]
		}
	}
	if so {
		return 1
	}
	return 0
}

// allStates is all states, in order, by counting on the last number first.
func allStates(m impl.Mach) [][]int {
	s := []int{}
	for _, d := range m.Decls {
		s = append(s, d.Low)
	}
	states := [][]int{}
	for {
		states = append(states, slices.Clone(s))
		at := len(s) - 1
		for at >= 0 && s[at] == m.Decls[at].High {
			s[at] = m.Decls[at].Low
			at--
		}
		if at < 0 {
			return states
		}
		s[at]++
	}
}

// statesOfChoices is all states of which each number is what one of its choices is.
func statesOfChoices(m impl.Mach, s []int, choices func(d impl.Decl) []impl.Exp) [][]int {
	values := [][]int{}
	for _, d := range m.Decls {
		of := []int{}
		for _, e := range choices(d) {
			of = append(of, valueByHand(m.Decls, s, e))
		}
		values = append(values, of)
	}
	states := [][]int{}
	for _, next := range allStates(m) {
		fine := true
		for i, n := range next {
			fine = fine && slices.Contains(values[i], n)
		}
		if fine {
			states = append(states, next)
		}
	}
	return states
}

func initsByHand(m impl.Mach) [][]int {
	return statesOfChoices(m, nil, func(d impl.Decl) []impl.Exp { return d.Init })
}

func stepsByHand(m impl.Mach, s []int) [][]int {
	return statesOfChoices(m, s, func(d impl.Decl) []impl.Exp { return d.Next })
}

// checkByHand is the first code that fits, each asked of the whole machine.
func checkByHand(m impl.Mach) int {
	bad := map[int]bool{}
	size := 1
	bad[impl.MachNames] = len(m.Decls) == 0 || len(m.Decls) > 5 || len(m.Rules) > 4
	for i, d := range m.Decls {
		twice := slices.ContainsFunc(m.Decls[:i], func(o impl.Decl) bool { return o.Name == d.Name })
		bad[impl.MachNames] = bad[impl.MachNames] || twice || !nodesFine(name(d.Name))
		kind := 1
		if d.Bool {
			kind = 2
			bad[impl.MachRange] = bad[impl.MachRange] || d.Low != 0 || d.High != 1
		} else {
			bad[impl.MachRange] = bad[impl.MachRange] || d.Low < 0 || d.Low > d.High || d.High > 999
		}
		bad[impl.MachInit] = bad[impl.MachInit] || !choicesFine(d.Init, nil, kind)
		bad[impl.MachNext] = bad[impl.MachNext] || !choicesFine(d.Next, m.Decls, kind)
		if d.High-d.Low < 1000 && size <= 500 {
			size *= d.High - d.Low + 1
		}
	}
	for i, r := range m.Rules {
		twice := slices.ContainsFunc(m.Rules[:i], func(o impl.Rule) bool { return o.Name == r.Name })
		bad[impl.MachNames] = bad[impl.MachNames] || twice || !nodesFine(name(r.Name))
		bad[impl.MachRule] = bad[impl.MachRule] || !expOkByHand(r.Exp) || kindByHand(m.Decls, r.Exp) != 2
	}
	bad[impl.MachMany] = size > 500
	for code := 1; code <= 6; code++ {
		if bad[code] {
			return code
		}
	}
	return 0
}

func choicesFine(exps []impl.Exp, decls []impl.Decl, kind int) bool {
	for _, e := range exps {
		if !expOkByHand(e) || kindByHand(decls, e) != kind {
			return false
		}
	}
	return len(exps) >= 1 && len(exps) <= 3
}

// machPutByHand is a machine that is fine as a text.
func machPutByHand(m impl.Mach) string {
	text := ""
	list := func(exps []impl.Exp) string {
		texts := []string{}
		for _, e := range exps {
			texts = append(texts, showByHand(e))
		}
		return strings.Join(texts, ", ")
	}
	for _, d := range m.Decls {
		may := fmt.Sprintf("%d..%d", d.Low, d.High)
		if d.Bool {
			may = "bool"
		}
		text += fmt.Sprintf("var %s : %s;\ninit %s;\nnext %s;\n", d.Name, may, list(d.Init), list(d.Next))
	}
	for _, r := range m.Rules {
		text += fmt.Sprintf("always %s : %s;\n", r.Name, showByHand(r.Exp))
	}
	return text
}

// machGetByHand parts tokens at each `;`, and looks at the pieces one by one.
func machGetByHand(text string) (impl.Mach, bool) {
	tokens, fine := tokensByHand(text)
	if !fine || len(tokens) == 0 || tokens[len(tokens)-1] != ";" {
		return impl.Mach{}, false
	}
	pieces := strings.Split(strings.Join(tokens[:len(tokens)-1], " "), ";")
	m := impl.Mach{}
	for i := 0; i < len(pieces); i++ {
		piece := strings.Fields(pieces[i])
		switch {
		case len(piece) > 0 && piece[0] == "var" && len(m.Rules) == 0 && i+2 < len(pieces):
			d, ok := declByHand(piece, strings.Fields(pieces[i+1]), strings.Fields(pieces[i+2]))
			if !ok {
				return impl.Mach{}, false
			}
			m.Decls = append(m.Decls, d)
			i += 2
		case len(piece) > 3 && piece[0] == "always" && piece[2] == ":":
			e, ok := readTokens(piece[3:])
			if !ok {
				return impl.Mach{}, false
			}
			m.Rules = append(m.Rules, impl.Rule{Name: piece[1], Exp: e})
		default:
			return impl.Mach{}, false
		}
	}
	if checkByHand(m) != 0 {
		return impl.Mach{}, false
	}
	return m, true
}

func declByHand(head []string, inits []string, nexts []string) (impl.Decl, bool) {
	d := impl.Decl{}
	all := strings.Join(head, " ")
	if parts := regexp.MustCompile(`^var ([a-z]+) : bool$`).FindStringSubmatch(all); parts != nil {
		d = impl.Decl{Name: parts[1], Bool: true, High: 1}
	} else if parts := regexp.MustCompile(`^var ([a-z]+) : (0|[1-9][0-9]{0,4}) \.\. (0|[1-9][0-9]{0,4})$`).FindStringSubmatch(all); parts != nil {
		d.Name = parts[1]
		d.Low, _ = strconv.Atoi(parts[2])
		d.High, _ = strconv.Atoi(parts[3])
	} else {
		return d, false
	}
	for word, to := range map[string]*[]impl.Exp{"init": &d.Init, "next": &d.Next} {
		tokens := map[string][]string{"init": inits, "next": nexts}[word]
		if len(tokens) == 0 || tokens[0] != word {
			return d, false
		}
		for _, piece := range strings.Split(strings.Join(tokens[1:], " "), ",") {
			e, ok := readTokens(strings.Fields(piece))
			if !ok {
				return d, false
			}
			*to = append(*to, e)
		}
	}
	return d, true
}

// drawOf draws an expression of a kind among declarations; without any it has no names.
func drawOf(r *rand.Rand, decls []impl.Decl, kind int, deep int) impl.Exp {
	if deep <= 1 || r.IntN(4) == 0 {
		for _, i := range r.Perm(len(decls)) {
			if decls[i].Bool == (kind == 2) && r.IntN(4) > 0 {
				return name(decls[i].Name)
			}
		}
		if kind == 1 {
			return num(r.IntN(6))
		}
		return []impl.Exp{yes(), no()}[r.IntN(2)]
	}
	part := func(kind int) impl.Exp { return drawOf(r, decls, kind, deep-1) }
	if r.IntN(5) == 0 {
		return when(part(2), part(kind), part(kind))
	}
	if kind == 1 {
		return two(part(1), []string{"+", "-"}[r.IntN(2)], part(1))
	}
	switch r.IntN(6) {
	case 0:
		return not(part(2))
	case 1:
		return two(part(2), "=", part(2))
	case 2:
		return two(part(1), []string{"=", "<"}[r.IntN(2)], part(1))
	}
	return two(part(2), []string{"|", "&"}[r.IntN(2)], part(2))
}

func drawFitting(r *rand.Rand, decls []impl.Decl, kind int) impl.Exp {
	for {
		if e := drawOf(r, decls, kind, 1+r.IntN(5)); nodesIn(e) <= impl.SizeMax {
			return e
		}
	}
}

func drawChoices(r *rand.Rand, decls []impl.Decl, kind int) []impl.Exp {
	exps := []impl.Exp{}
	for range 1 + r.IntN(impl.ChoiceMax) {
		exps = append(exps, drawFitting(r, decls, kind))
	}
	return exps
}

// drawMach draws a machine that is fine.
func drawMach(r *rand.Rand) impl.Mach {
	m := impl.Mach{}
	size := 1
	for i := range 1 + r.IntN(impl.DeclMax) {
		d := impl.Decl{Name: []string{"x", "y", "up", "low", "abcdefgh"}[i], Low: r.IntN(3)}
		d.High = d.Low + r.IntN(5)
		if r.IntN(2) == 0 || size*(d.High-d.Low+1) > 40 {
			d = impl.Decl{Name: d.Name, Bool: true, High: 1}
		}
		size *= d.High - d.Low + 1
		m.Decls = append(m.Decls, d)
	}
	for i, d := range m.Decls {
		kind := kindByHand(m.Decls, name(d.Name))
		m.Decls[i].Init = drawChoices(r, nil, kind)
		m.Decls[i].Next = drawChoices(r, m.Decls, kind)
	}
	for i := range r.IntN(impl.RuleMax + 1) {
		m.Rules = append(m.Rules, impl.Rule{Name: []string{"low", "x", "p", "q"}[i], Exp: drawFitting(r, m.Decls, 2)})
	}
	return m
}

// eachMach calls a check with machines that are fine.
func eachMach(seed uint64, times int, check func(r *rand.Rand, m impl.Mach)) {
	r := drawer(seed)
	for range times {
		check(r, drawMach(r))
	}
}

// copyMach is a machine that shares no list with another.
func copyMach(m impl.Mach) impl.Mach {
	other := impl.Mach{}
	for _, d := range m.Decls {
		d.Init, d.Next = copyExps(d.Init), copyExps(d.Next)
		other.Decls = append(other.Decls, d)
	}
	for _, r := range m.Rules {
		other.Rules = append(other.Rules, impl.Rule{Name: r.Name, Exp: copyExps([]impl.Exp{r.Exp})[0]})
	}
	return other
}

func copyExps(exps []impl.Exp) []impl.Exp {
	others := []impl.Exp{}
	for _, e := range exps {
		e.Kids = copyExps(e.Kids)
		others = append(others, e)
	}
	return others
}

func sameMach(a impl.Mach, b impl.Mach) bool {
	sameDecl := func(d impl.Decl, o impl.Decl) bool {
		return d.Name == o.Name && d.Bool == o.Bool && d.Low == o.Low && d.High == o.High && slices.EqualFunc(d.Init, o.Init, sameExp) && slices.EqualFunc(d.Next, o.Next, sameExp)
	}
	sameRule := func(r impl.Rule, o impl.Rule) bool {
		return r.Name == o.Name && sameExp(r.Exp, o.Exp)
	}
	return slices.EqualFunc(a.Decls, b.Decls, sameDecl) && slices.EqualFunc(a.Rules, b.Rules, sameRule)
}

func isNoMach(m impl.Mach) bool {
	return len(m.Decls) == 0 && len(m.Rules) == 0
}

// mustExp reads an expression for a test, by hand.
func mustExp(t *testing.T, text string) impl.Exp {
	t.Helper()
	e, ok := readByHand(text)
	if !ok {
		t.Fatalf("%q is no expression", text)
	}
	return e
}

// mustMach reads a machine for a test, by hand.
func mustMach(t *testing.T, text string) impl.Mach {
	t.Helper()
	m, ok := machGetByHand(text)
	if !ok {
		t.Fatalf("%q is no machine", text)
	}
	return m
}

// endless is an expression that is a part of itself, so many nodes further on.
func endless(kind int, around int) impl.Exp {
	lists := make([][]impl.Exp, around)
	many := map[int]int{impl.ExpNot: 1, impl.ExpTwo: 2, impl.ExpIf: 3}[kind]
	text := map[int]string{impl.ExpTwo: "&"}[kind]
	for i := range lists {
		lists[i] = make([]impl.Exp, many)
	}
	for i := range lists {
		for k := range lists[i] {
			lists[i][k] = impl.Exp{Kind: kind, Text: text, Kids: lists[(i+1)%around]}
		}
	}
	return lists[0][0]
}

// doubled is an expression with both kids of each node being the same list of kids again: it has few lists, and very many nodes.
func doubled(deep int, last impl.Exp) impl.Exp {
	e := last
	for range deep {
		e = two(e, "&", e)
	}
	return e
}

func wantStates(t *testing.T, what string, got [][]int, want [][]int) {
	t.Helper()
	if !slices.EqualFunc(got, want, same) {
		t.Errorf("%s: %v, want %v", what, got, want)
	}
}
