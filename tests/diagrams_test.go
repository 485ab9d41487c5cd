package tests

import (
	"fmt"
	"math/rand/v2"
	"slices"
	"testing"

	"loop.example/registrar/impl"
)

// mustBdd is the diagram of a table, for a test.
func mustBdd(t *testing.T, vars int, table []bool) impl.Bdd {
	t.Helper()
	b, ok := impl.BddOf(vars, table)
	if !ok {
		t.Fatalf("no diagram of %d variables: %s", vars, bits(table))
	}
	return b
}

// P46
func TestTablesHaveOneDiagram(t *testing.T) {
	most := 0
	eachTable(161, 3000, func(r *rand.Rand, vars int, table []bool) {
		b, ok := impl.BddOf(vars, table)
		if !ok || !sameBdd(b, diagramByHand(vars, table)) {
			t.Fatalf("%s: %v %v, want %v", bits(table), b, ok, diagramByHand(vars, table))
		}
		if got := impl.BddTable(b); !slices.Equal(got, table) {
			t.Fatalf("%s: read back as %s", bits(table), bits(got))
		}
		wantFormAsPromised(t, b)
		most = max(most, len(b.Nodes))
	})
	if most < 15 {
		t.Errorf("the greatest has %d nodes", most)
	}
}

// wantFormAsPromised looks whether no node has Low and High alike, none is there twice, and each asks ahead of those it goes to.
func wantFormAsPromised(t *testing.T, b impl.Bdd) {
	t.Helper()
	for i, n := range b.Nodes {
		if n.Low == n.High || slices.Contains(b.Nodes[:i], n) || n.Var < 0 || n.Var >= b.Vars {
			t.Fatalf("%v: %v at %d", b, n, i)
		}
		for _, to := range []int{n.Low, n.High} {
			if to < 0 || to > i+1 || to > 1 && b.Nodes[to-2].Var <= n.Var {
				t.Fatalf("%v: %v at %d goes to %d", b, n, i, to)
			}
		}
	}
}

// P46: all tables of four variables have diagrams of their own.
func TestDiagramsOfFourVariables(t *testing.T) {
	known := map[string]int{}
	for number := range 1 << 16 {
		table := tableNumbered(4, number)
		b := mustBdd(t, 4, table)
		text := fmt.Sprint(b.Root, b.Nodes)
		if other, twice := known[text]; twice {
			t.Fatalf("%d and %d have the same diagram %s", number, other, text)
		}
		known[text] = number
		if number%17 == 0 && (!slices.Equal(impl.BddTable(b), table) || !impl.BddOk(b)) {
			t.Fatalf("%d: %v", number, b)
		}
	}
}

func TestDiagramsOfEdges(t *testing.T) {
	for _, c := range []struct {
		what  string
		vars  int
		table string
		want  string
	}{
		{"no variables, never", 0, "0", "{0 [] 0}"},
		{"no variables, always", 0, "1", "{0 [] 1}"},
		{"one variable, never", 1, "00", "{1 [] 0}"},
		{"one variable, always", 1, "11", "{1 [] 1}"},
		{"one variable", 1, "01", "{1 [{0 0 1}] 2}"},
		{"its opposite", 1, "10", "{1 [{0 1 0}] 2}"},
		{"the same of all ways", 3, "11111111", "{3 [] 1}"},
		{"never", 3, "00000000", "{3 [] 0}"},
		{"the first alone", 3, "00001111", "{3 [{0 0 1}] 2}"},
		{"the second alone", 3, "00110011", "{3 [{1 0 1}] 2}"},
		{"the last alone", 3, "01010101", "{3 [{2 0 1}] 2}"},
		{"the last alone, not so", 3, "10101010", "{3 [{2 1 0}] 2}"},
		{"halves that are the same", 3, "01100110", "{3 [{2 0 1} {2 1 0} {1 2 3}] 4}"},
		{"halves that are opposites", 3, "01101001", "{3 [{2 0 1} {2 1 0} {1 2 3} {1 3 2} {0 4 5}] 6}"},
		{"halves that share nodes", 3, "01000111", "{3 [{2 0 1} {1 2 0} {1 2 1} {0 3 4}] 5}"},
		{"a half that is a part of the other", 3, "01010001", "{3 [{2 0 1} {1 0 2} {0 2 3}] 4}"},
		{"a part of the other first", 3, "00010101", "{3 [{2 0 1} {1 0 2} {0 3 2}] 4}"},
		{"just the first way", 3, "10000000", "{3 [{2 1 0} {1 2 0} {0 3 0}] 4}"},
		{"just the last way", 3, "00000001", "{3 [{2 0 1} {1 0 2} {0 0 3}] 4}"},
		{"all but the last way", 3, "11111110", "{3 [{2 1 0} {1 1 2} {0 1 3}] 4}"},
		{"the one in the middle makes no difference", 3, "01011010", "{3 [{2 0 1} {2 1 0} {0 2 3}] 4}"},
		{"the last makes no difference", 3, "00111100", "{3 [{1 0 1} {1 1 0} {0 2 3}] 4}"},
		{"alike but for their variables", 4, "0000000101010101", "{4 [{3 0 1} {2 0 2} {1 0 3} {0 4 2}] 5}"},
	} {
		b, ok := impl.BddOf(c.vars, tableOfBits(c.table))
		if got := fmt.Sprint(b); got != c.want || !ok {
			t.Errorf("%s: %s %v, want %s", c.what, got, ok, c.want)
		}
		if !impl.BddOk(b) {
			t.Errorf("%s: not ok", c.what)
		}
		if got := bits(impl.BddTable(b)); got != c.table {
			t.Errorf("%s: read back as %s", c.what, got)
		}
	}
}

func TestDiagramsAtLimits(t *testing.T) {
	for vars := -2; vars <= 9; vars++ {
		size := 0
		if vars >= 0 {
			size = 1 << vars
		}
		for _, more := range []int{-1, 0, 1} {
			if size+more < 0 {
				continue
			}
			b, ok := impl.BddOf(vars, make([]bool, size+more))
			want := impl.Bdd{}
			fits := vars >= 0 && vars <= 6 && more == 0
			if fits {
				want.Vars = vars
			}
			if ok != fits || !sameBdd(b, want) {
				t.Errorf("%d variables, %d ways: %v %v", vars, size+more, b, ok)
			}
		}
		b, ok := impl.BddOf(vars, nil)
		if ok || !isNoBdd(b) {
			t.Errorf("%d variables, no table: %v %v", vars, b, ok)
		}
	}
	for _, vars := range []int{-1 << 63, 1<<63 - 1, 64, 63, 62, -64} {
		for _, size := range []int{0, 1, 64} {
			if b, ok := impl.BddOf(vars, make([]bool, size)); ok || !isNoBdd(b) {
				t.Errorf("%d variables, %d ways: %v %v", vars, size, b, ok)
			}
		}
	}
	b := mustBdd(t, 6, greatest())
	if len(b.Nodes) != 29 || !impl.BddOk(b) || !slices.Equal(impl.BddTable(b), greatest()) {
		t.Errorf("%d nodes: %v", len(b.Nodes), b)
	}
}

// P47
func TestDiagramsInTheirForm(t *testing.T) {
	fine, wrong := 0, 0
	check := func(b impl.Bdd) {
		t.Helper()
		got := impl.BddOk(b)
		if want := diagramOkByHand(b); got != want {
			t.Fatalf("%v: %v", b, got)
		}
		table := impl.BddTable(b)
		if !got {
			wrong++
			if len(table) != 0 {
				t.Fatalf("%v: %s", b, bits(table))
			}
			return
		}
		fine++
		again, ok := impl.BddOf(b.Vars, table)
		if !ok || !sameBdd(again, b) {
			t.Fatalf("%v: the diagram of its table is %v %v", b, again, ok)
		}
		for i, way := range models(b.Vars) {
			if impl.BddIs(b, way) != table[i] {
				t.Fatalf("%v: %v of %v", b, !table[i], way)
			}
		}
	}
	eachTable(162, 600, func(r *rand.Rand, vars int, table []bool) {
		b := mustBdd(t, vars, table)
		check(b)
		for range 6 {
			check(drawWrong(r, b))
		}
	})
	if fine < 800 || wrong < 2000 {
		t.Errorf("%d diagrams are ok, %d are not", fine, wrong)
	}
}

// drawWrong is a diagram with something of it drawn anew; it may still be ok.
func drawWrong(r *rand.Rand, b impl.Bdd) impl.Bdd {
	b.Nodes = slices.Clone(b.Nodes)
	many := len(b.Nodes)
	to := func() int { return r.IntN(many+5) - 1 }
	if r.IntN(4) == 0 || many == 0 {
		switch r.IntN(3) {
		case 0:
			b.Root = to()
		case 1:
			b.Vars += 1 - 2*r.IntN(2)
		case 2:
			b.Nodes = append(b.Nodes, node(r.IntN(b.Vars+1), to(), to()))
		}
		return b
	}
	at := r.IntN(many)
	switch r.IntN(7) {
	case 0:
		b.Nodes[at].Var += 1 - 2*r.IntN(2)
	case 1:
		b.Nodes[at].Low = to()
	case 2:
		b.Nodes[at].High = to()
	case 3:
		b.Nodes[at].Low, b.Nodes[at].High = b.Nodes[at].High, b.Nodes[at].Low
	case 4:
		return swapped(b, at, r.IntN(many))
	case 5:
		b.Nodes = slices.Delete(b.Nodes, at, at+1)
	case 6:
		b.Nodes = append(b.Nodes, b.Nodes[at])
		b.Root = []int{b.Root, many + 2}[r.IntN(2)]
	}
	return b
}

// swapped is a diagram with two nodes at each other's place, all that goes there following: its table is the same, if the order still lets it be.
func swapped(b impl.Bdd, x int, y int) impl.Bdd {
	moved := func(to int) int {
		switch to {
		case x + 2:
			return y + 2
		case y + 2:
			return x + 2
		}
		return to
	}
	other := impl.Bdd{Vars: b.Vars, Root: moved(b.Root)}
	for i := range b.Nodes {
		n := b.Nodes[moved(i+2)-2]
		other.Nodes = append(other.Nodes, node(n.Var, moved(n.Low), moved(n.High)))
	}
	return other
}

// P47: all diagrams of up to two nodes and variables, whatever their numbers.
func TestAllSmallDiagrams(t *testing.T) {
	nodes := []impl.BddNode{}
	for v := -1; v <= 2; v++ {
		for low := -1; low <= 4; low++ {
			for high := -1; high <= 4; high++ {
				nodes = append(nodes, node(v, low, high))
			}
		}
	}
	lists := [][]impl.BddNode{nil}
	for _, n := range nodes {
		lists = append(lists, []impl.BddNode{n})
		for _, o := range nodes {
			lists = append(lists, []impl.BddNode{n, o})
		}
	}
	fine := 0
	for vars := -1; vars <= 2; vars++ {
		for _, list := range lists {
			for root := -1; root <= len(list)+2; root++ {
				b := impl.Bdd{Vars: vars, Nodes: list, Root: root}
				got := impl.BddOk(b)
				if want := diagramOkByHand(b); got != want {
					t.Fatalf("%v: %v", b, got)
				}
				if got {
					fine++
				}
			}
		}
	}
	// of no variables 2 tables, of one 4, of two 16, of which those that tell whether both are alike take three nodes
	if fine != 2+4+14 {
		t.Errorf("%d are ok", fine)
	}
}

func TestDiagramsThatAreNotOk(t *testing.T) {
	one := mustBdd(t, 2, tableOfBits("0110"))
	for what, b := range wrongBdds() {
		if impl.BddOk(b) || diagramOkByHand(b) {
			t.Errorf("%s: ok", what)
		}
		if table := impl.BddTable(b); len(table) != 0 {
			t.Errorf("%s: BddTable %v", what, table)
		}
		for size := range 9 {
			if impl.BddIs(b, make([]bool, size)) || impl.BddIs(b, slices.Repeat([]bool{true}, size)) {
				t.Errorf("%s: BddIs", what)
			}
		}
		if !isNoBdd(impl.BddNot(b)) {
			t.Errorf("%s: BddNot %v", what, impl.BddNot(b))
		}
		for _, sign := range []string{"&", "|", "=", "", "<"} {
			for _, pair := range [][2]impl.Bdd{{b, b}, {b, one}, {one, b}} {
				if x, ok := impl.BddTwo(sign, pair[0], pair[1]); !isNoBdd(x) || ok {
					t.Errorf("%s: BddTwo of %q: %v %v", what, sign, x, ok)
				}
			}
		}
		for v := -1; v <= 7; v++ {
			for _, so := range []bool{false, true} {
				if x := impl.BddWith(b, v, so); !isNoBdd(x) {
					t.Errorf("%s: BddWith of %d: %v", what, v, x)
				}
			}
			if x := impl.BddSome(b, v); !isNoBdd(x) {
				t.Errorf("%s: BddSome of %d: %v", what, v, x)
			}
		}
		if n := impl.BddCount(b); n != -1 {
			t.Errorf("%s: BddCount %d", what, n)
		}
		if way, ok := impl.BddFirst(b); len(way) != 0 || ok {
			t.Errorf("%s: BddFirst %v %v", what, way, ok)
		}
		if needs := impl.BddNeeds(b); len(needs) != 0 {
			t.Errorf("%s: BddNeeds %v", what, needs)
		}
	}
}

func TestDiagramsWithoutNodes(t *testing.T) {
	for vars := -1; vars <= 7; vars++ {
		for root := -1; root <= 3; root++ {
			want := vars >= 0 && vars <= 6 && (root == 0 || root == 1)
			for _, nodes := range [][]impl.BddNode{nil, {}} {
				if got := impl.BddOk(impl.Bdd{Vars: vars, Nodes: nodes, Root: root}); got != want {
					t.Errorf("%d variables, Root %d: %v", vars, root, got)
				}
			}
		}
	}
}

func TestWaysOfDiagrams(t *testing.T) {
	for _, c := range []struct {
		what string
		b    impl.Bdd
	}{
		{"always", impl.Bdd{Vars: 2, Root: 1}},
		{"one of two", mustBdd(t, 2, tableOfBits("0110"))},
		{"no variables", impl.Bdd{Root: 1}},
		{"as many as there may be", mustBdd(t, 6, turnedTable(make([]bool, 64)))},
	} {
		for size := range 9 {
			some := false
			for _, way := range models(size) {
				some = some || impl.BddIs(c.b, way)
			}
			if some != (size == c.b.Vars) {
				t.Errorf("%s: ways of %d variables: %v", c.what, size, some)
			}
		}
	}
	if !impl.BddIs(impl.Bdd{Root: 1}, nil) || !impl.BddIs(impl.Bdd{Root: 1}, []bool{}) || impl.BddIs(impl.Bdd{}, nil) {
		t.Error("the only way of no variables")
	}
}

// P48
func TestOppositesOfOpposites(t *testing.T) {
	eachTable(163, 1500, func(r *rand.Rand, vars int, table []bool) {
		b := mustBdd(t, vars, table)
		not := impl.BddNot(b)
		if !sameBdd(not, diagramByHand(vars, turnedTable(table))) || len(not.Nodes) != len(b.Nodes) {
			t.Fatalf("%v: %v", b, not)
		}
		if again := impl.BddNot(not); !sameBdd(again, b) {
			t.Fatalf("%v: %v, and again %v", b, not, again)
		}
		both, fine := impl.BddTwo("&", b, not)
		either, ok := impl.BddTwo("|", b, not)
		if !fine || !ok || !sameBdd(both, impl.Bdd{Vars: vars}) || !sameBdd(either, impl.Bdd{Vars: vars, Root: 1}) {
			t.Fatalf("%v: both %v %v, either %v %v", b, both, fine, either, ok)
		}
	})
}

// P49
func TestTwoDiagramsTogether(t *testing.T) {
	eachPair(164, 1500, func(vars int, x []bool, y []bool) {
		a, b := mustBdd(t, vars, x), mustBdd(t, vars, y)
		for _, sign := range []string{"&", "|", "="} {
			got, ok := impl.BddTwo(sign, a, b)
			want := between(sign, x, y)
			if !ok || !sameBdd(got, diagramByHand(vars, want)) || !slices.Equal(impl.BddTable(got), want) {
				t.Fatalf("%s %s %s: %v %v", bits(x), sign, bits(y), got, ok)
			}
			if round, ok := impl.BddTwo(sign, b, a); !ok || !sameBdd(round, got) {
				t.Fatalf("%s %s %s: %v, the other way round %v", bits(x), sign, bits(y), got, round)
			}
			twice, ok := impl.BddTwo(sign, a, a)
			once := a
			if sign == "=" {
				once = impl.Bdd{Vars: vars, Root: 1}
			}
			if !ok || !sameBdd(twice, once) {
				t.Fatalf("%s %s itself: %v %v", bits(x), sign, twice, ok)
			}
		}
	})
}

func TestTwoDiagramsOfEdges(t *testing.T) {
	for vars := range 7 {
		never, always := impl.Bdd{Vars: vars}, impl.Bdd{Vars: vars, Root: 1}
		r := drawer(165)
		for range 20 {
			b := mustBdd(t, vars, drawTable(r, vars))
			not := impl.BddNot(b)
			for _, c := range []struct {
				sign  string
				other impl.Bdd
				want  impl.Bdd
			}{
				{"&", b, b}, {"|", b, b}, {"=", b, always},
				{"&", not, never}, {"|", not, always}, {"=", not, never},
				{"&", never, never}, {"|", never, b}, {"=", never, not},
				{"&", always, b}, {"|", always, always}, {"=", always, b},
			} {
				for _, pair := range [][2]impl.Bdd{{b, c.other}, {c.other, b}} {
					if got, ok := impl.BddTwo(c.sign, pair[0], pair[1]); !ok || !sameBdd(got, c.want) {
						t.Errorf("%v %s %v: %v %v, want %v", pair[0], c.sign, pair[1], got, ok, c.want)
					}
				}
			}
		}
	}
}

func TestTwoDiagramsThatDoNotFit(t *testing.T) {
	b := mustBdd(t, 2, tableOfBits("0110"))
	for _, sign := range []string{"", " ", "!", "<", "+", "-", "&&", "||", "==", "& ", " |", "and", "\x00", "≡", "|&"} {
		if x, ok := impl.BddTwo(sign, b, b); !isNoBdd(x) || ok {
			t.Errorf("%q: %v %v", sign, x, ok)
		}
	}
	for one := range 7 {
		for other := range 7 {
			for root := range 4 {
				for _, sign := range []string{"&", "|", "="} {
					x := impl.Bdd{Vars: one, Root: root / 2}
					y := impl.Bdd{Vars: other, Root: root % 2}
					got, ok := impl.BddTwo(sign, x, y)
					if ok != (one == other) || !ok && !isNoBdd(got) {
						t.Errorf("%v %s %v: %v %v", x, sign, y, got, ok)
					}
				}
			}
		}
	}
	// the same nodes, of variables that are not as many
	same := impl.Bdd{Vars: 3, Nodes: []impl.BddNode{node(0, 0, 1)}, Root: 2}
	less := impl.Bdd{Vars: 2, Nodes: []impl.BddNode{node(0, 0, 1)}, Root: 2}
	if x, ok := impl.BddTwo("&", same, less); !isNoBdd(x) || ok {
		t.Errorf("%v %v", x, ok)
	}
}

// P50
func TestOppositesOfBoth(t *testing.T) {
	eachPair(166, 1500, func(vars int, x []bool, y []bool) {
		a, b := mustBdd(t, vars, x), mustBdd(t, vars, y)
		either, _ := impl.BddTwo("|", a, b)
		both, _ := impl.BddTwo("&", a, b)
		nots, _ := impl.BddTwo("&", impl.BddNot(a), impl.BddNot(b))
		some, _ := impl.BddTwo("|", impl.BddNot(a), impl.BddNot(b))
		if !sameBdd(impl.BddNot(either), nots) || !sameBdd(impl.BddNot(both), some) {
			t.Fatalf("%s and %s: %v and %v", bits(x), bits(y), impl.BddNot(either), nots)
		}
		if impl.BddCount(either)+impl.BddCount(both) != impl.BddCount(a)+impl.BddCount(b) {
			t.Fatalf("%s and %s: %d and %d", bits(x), bits(y), impl.BddCount(either), impl.BddCount(both))
		}
	})
}

// P51
func TestDiagramsWithAVariableTold(t *testing.T) {
	differs, same := 0, 0
	eachTable(167, 400, func(r *rand.Rand, vars int, table []bool) {
		b := mustBdd(t, vars, table)
		for v := range vars {
			for _, so := range []bool{false, true} {
				got := impl.BddWith(b, v, so)
				if want := diagramByHand(vars, tableWith(vars, table, v, so)); !sameBdd(got, want) {
					t.Fatalf("%s with %d %v: %v, want %v", bits(table), v, so, got, want)
				}
				for i, way := range models(vars) {
					if way[v] == so && impl.BddIs(got, way) != table[i] {
						t.Fatalf("%s with %d %v: not as it was of %v", bits(table), v, so, way)
					}
				}
				for _, again := range []bool{false, true} {
					if !sameBdd(impl.BddWith(got, v, again), got) {
						t.Fatalf("%s with %d %v, and again %v: %v", bits(table), v, so, again, impl.BddWith(got, v, again))
					}
				}
				if slices.Contains(impl.BddNeeds(got), v) {
					t.Fatalf("%s with %d %v: needs it", bits(table), v, so)
				}
				if sameBdd(got, b) {
					same++
				} else {
					differs++
				}
			}
		}
	})
	if differs < 500 || same < 500 {
		t.Errorf("%d differ, %d are the same", differs, same)
	}
}

// P52
func TestDiagramsOfWhichAVariableMayBeAny(t *testing.T) {
	eachTable(168, 400, func(r *rand.Rand, vars int, table []bool) {
		b := mustBdd(t, vars, table)
		never := impl.Bdd{Vars: vars}
		for v := range vars {
			got := impl.BddSome(b, v)
			want := between("|", tableWith(vars, table, v, false), tableWith(vars, table, v, true))
			if !sameBdd(got, diagramByHand(vars, want)) {
				t.Fatalf("%s with some %d: %v", bits(table), v, got)
			}
			either, _ := impl.BddTwo("|", impl.BddWith(b, v, false), impl.BddWith(b, v, true))
			if !sameBdd(got, either) {
				t.Fatalf("%s with some %d: %v, and either %v", bits(table), v, got, either)
			}
			if inside, _ := impl.BddTwo("&", b, got); !sameBdd(inside, b) {
				t.Fatalf("%s with some %d: not wherever it is", bits(table), v)
			}
			if sameBdd(got, never) != sameBdd(b, never) {
				t.Fatalf("%s with some %d: %v", bits(table), v, got)
			}
		}
	})
}

func TestToldVariablesOfEdges(t *testing.T) {
	first := mustBdd(t, 3, tableOfBits("00001111"))
	last := mustBdd(t, 3, tableOfBits("01010101"))
	mixed := mustBdd(t, 3, tableOfBits("01000111"))
	for _, c := range []struct {
		what string
		b    impl.Bdd
		v    int
		not  string
		so   string
		some string
	}{
		{"the first", first, 0, "{3 [] 0}", "{3 [] 1}", "{3 [] 1}"},
		{"one that makes no difference", first, 1, "{3 [{0 0 1}] 2}", "{3 [{0 0 1}] 2}", "{3 [{0 0 1}] 2}"},
		{"the last, that makes no difference", first, 2, "{3 [{0 0 1}] 2}", "{3 [{0 0 1}] 2}", "{3 [{0 0 1}] 2}"},
		{"the last", last, 2, "{3 [] 0}", "{3 [] 1}", "{3 [] 1}"},
		{"the first, that makes no difference", last, 0, "{3 [{2 0 1}] 2}", "{3 [{2 0 1}] 2}", "{3 [{2 0 1}] 2}"},
		{"the first of three", mixed, 0, "{3 [{2 0 1} {1 2 0}] 3}", "{3 [{2 0 1} {1 2 1}] 3}", "{3 [{2 0 1} {1 2 1}] 3}"},
		{"the second of three", mixed, 1, "{3 [{2 0 1}] 2}", "{3 [{0 0 1}] 2}", "{3 [{2 0 1} {0 2 1}] 3}"},
		{"the last of three", mixed, 2, "{3 [{1 0 1} {0 0 2}] 3}", "{3 [{1 1 0} {0 2 1}] 3}", "{3 [{1 1 0} {0 2 1}] 3}"},
	} {
		if got := fmt.Sprint(impl.BddWith(c.b, c.v, false)); got != c.not {
			t.Errorf("%s, not so: %s, want %s", c.what, got, c.not)
		}
		if got := fmt.Sprint(impl.BddWith(c.b, c.v, true)); got != c.so {
			t.Errorf("%s, so: %s, want %s", c.what, got, c.so)
		}
		if got := fmt.Sprint(impl.BddSome(c.b, c.v)); got != c.some {
			t.Errorf("%s, any: %s, want %s", c.what, got, c.some)
		}
	}
	for vars := range 7 {
		for _, root := range []int{0, 1} {
			b := impl.Bdd{Vars: vars, Root: root}
			for v := range vars {
				if !sameBdd(impl.BddWith(b, v, true), b) || !sameBdd(impl.BddWith(b, v, false), b) || !sameBdd(impl.BddSome(b, v), b) {
					t.Errorf("%v with %d", b, v)
				}
			}
			for _, v := range []int{-1, vars, vars + 1, 6, 7, -vars - 1, -1 << 63, 1<<63 - 1} {
				if v >= 0 && v < vars {
					continue
				}
				if !isNoBdd(impl.BddWith(b, v, true)) || !isNoBdd(impl.BddWith(b, v, false)) || !isNoBdd(impl.BddSome(b, v)) {
					t.Errorf("%v with %d, which is none", b, v)
				}
			}
		}
	}
}

// P53
func TestFirstWaysOfDiagrams(t *testing.T) {
	none := 0
	eachTable(169, 3000, func(r *rand.Rand, vars int, table []bool) {
		b := mustBdd(t, vars, table)
		way, ok := impl.BddFirst(b)
		at := slices.Index(table, true)
		if ok != (at >= 0) || ok != (impl.BddCount(b) != 0) {
			t.Fatalf("%s: %v %v, of %d ways", bits(table), way, ok, impl.BddCount(b))
		}
		if !ok {
			none++
			if len(way) != 0 {
				t.Fatalf("%s: %v", bits(table), way)
			}
			return
		}
		if !slices.Equal(way, models(vars)[at]) || !impl.BddIs(b, way) {
			t.Fatalf("%s: %v, want %v", bits(table), way, models(vars)[at])
		}
	})
	if none < 10 {
		t.Errorf("%d have none", none)
	}
}

// P54
func TestCountsOfDiagrams(t *testing.T) {
	eachTable(170, 1000, func(r *rand.Rand, vars int, table []bool) {
		b := mustBdd(t, vars, table)
		n := impl.BddCount(b)
		if n != trues(table) {
			t.Fatalf("%s: %d", bits(table), n)
		}
		for v := range vars {
			if both := impl.BddCount(impl.BddWith(b, v, false)) + impl.BddCount(impl.BddWith(b, v, true)); both != 2*n {
				t.Fatalf("%s: %d ways, with %d so and not %d", bits(table), n, v, both)
			}
		}
	})
}

// P55
func TestVariablesThatMatter(t *testing.T) {
	needless := 0
	eachTable(171, 1000, func(r *rand.Rand, vars int, table []bool) {
		b := mustBdd(t, vars, table)
		want := []int{}
		for v := range vars {
			differ := !slices.Equal(tableWith(vars, table, v, false), tableWith(vars, table, v, true))
			if differ != !sameBdd(impl.BddWith(b, v, false), impl.BddWith(b, v, true)) {
				t.Fatalf("%s: %d", bits(table), v)
			}
			if differ {
				want = append(want, v)
			}
		}
		if got := impl.BddNeeds(b); !same(got, want) {
			t.Fatalf("%s: %v, want %v", bits(table), got, want)
		}
		if len(want) > 0 && len(want) < vars {
			needless++
		}
	})
	if needless < 100 {
		t.Errorf("%d have variables that make no difference", needless)
	}
}

func TestLookingAtDiagramsOfEdges(t *testing.T) {
	for _, c := range []struct {
		what  string
		vars  int
		table string
		want  string
	}{
		{"no variables, never", 0, "0", "0 [] false []"},
		{"no variables, always", 0, "1", "1 [] true []"},
		{"never", 2, "0000", "0 [] false []"},
		{"always", 2, "1111", "4 [false false] true []"},
		{"one, so", 1, "01", "1 [true] true [0]"},
		{"one, not so", 1, "10", "1 [false] true [0]"},
		{"the first alone", 3, "00001111", "4 [true false false] true [0]"},
		{"the last alone", 3, "01010101", "4 [false false true] true [2]"},
		{"the second alone, not so", 3, "11001100", "4 [false false false] true [1]"},
		{"the last way alone", 3, "00000001", "1 [true true true] true [0 1 2]"},
		{"the one in the middle makes no difference", 3, "01011010", "4 [false false true] true [0 2]"},
		{"nothing in the first half", 3, "00000110", "2 [true false true] true [0 1 2]"},
	} {
		b := mustBdd(t, c.vars, tableOfBits(c.table))
		way, ok := impl.BddFirst(b)
		if got := fmt.Sprint(impl.BddCount(b), way, ok, impl.BddNeeds(b)); got != c.want {
			t.Errorf("%s: %s, want %s", c.what, got, c.want)
		}
	}
	never, always := impl.Bdd{Vars: 6}, impl.Bdd{Vars: 6, Root: 1}
	way, ok := impl.BddFirst(always)
	if impl.BddCount(never) != 0 || impl.BddCount(always) != 64 || !ok || !slices.Equal(way, make([]bool, 6)) {
		t.Errorf("as many variables as there may be: %d %d %v", impl.BddCount(never), impl.BddCount(always), way)
	}
	b := mustBdd(t, 6, greatest())
	if impl.BddCount(b) != trues(greatest()) || !same(impl.BddNeeds(b), []int{0, 1, 2, 3, 4, 5}) {
		t.Errorf("the greatest: %d %v", impl.BddCount(b), impl.BddNeeds(b))
	}
}

// P56
func TestClausesAndTheirDiagrams(t *testing.T) {
	found, none := 0, 0
	eachDrawn(172, func(r *rand.Rand, c impl.Cnf, told []int) {
		if c.Vars > impl.BddVars {
			return
		}
		table := []bool{}
		for _, way := range models(c.Vars) {
			table = append(table, impl.CnfHolds(c, way))
		}
		b := mustBdd(t, c.Vars, table)
		if impl.BddCount(b) != impl.Count(c) {
			t.Fatalf("%v: %d and %d ways", c, impl.BddCount(b), impl.Count(c))
		}
		way, ok := impl.BddFirst(b)
		first, can := impl.Solve(c, nil)
		if ok != can || !slices.Equal(way, first) {
			t.Fatalf("%v: %v %v and %v %v", c, way, ok, first, can)
		}
		if ok {
			found++
		} else {
			none++
		}
		together := impl.Bdd{Vars: c.Vars, Root: 1}
		for _, clause := range c.Clauses {
			together, _ = impl.BddTwo("&", together, diagramOfClause(t, c.Vars, clause))
		}
		wantBdd(t, "put together clause by clause", together, b)
	})
	if found < 300 || none < 300 {
		t.Errorf("%d have a way, %d have none", found, none)
	}
}

// diagramOfClause puts literals together, one by one.
func diagramOfClause(t *testing.T, vars int, clause []int) impl.Bdd {
	t.Helper()
	b := impl.Bdd{Vars: vars}
	for _, l := range clause {
		one := impl.Bdd{Vars: vars, Nodes: []impl.BddNode{node(max(l, -l)-1, 0, 1)}, Root: 2}
		if l < 0 {
			one = impl.BddNot(one)
		}
		b, _ = impl.BddTwo("|", b, one)
	}
	return b
}
