package tests

import (
	"fmt"
	"math/rand/v2"
	"slices"
	"strings"
	"testing"

	"loop.example/registrar/impl"
)

func TestCompileLeavesMachinesAsTheyAre(t *testing.T) {
	check := func(m impl.Mach) {
		t.Helper()
		w := watchMach(m, nil, yes())
		a, _ := impl.Compile(w.m)
		w.still(t, "Compile")
		wipeAig(a)
		w.still(t, "what Compile answers")
	}
	eachTruths(151, 300, func(r *rand.Rand, m impl.Mach) { check(m) })
	eachMach(152, 100, func(r *rand.Rand, m impl.Mach) { check(m) })
	for _, f := range faults() {
		m := wide()
		f.do(&m, 1, 1)
		if f.what != "a rule that is a part of itself" {
			check(m)
		}
	}
	check(manyPairs(t, impl.AndMax))
	check(manyPairs(t, impl.AndMax+1))
	check(crowded(321, yes()))
}

func TestUnrollLeavesCircuitsAsTheyAre(t *testing.T) {
	check := func(r *rand.Rand, a impl.Aig, steps int) {
		t.Helper()
		w := watchCircuit(r, a)
		c, _ := impl.Unroll(w.a, steps)
		w.still(t, "Unroll")
		apart(t, "Unroll", c.Clauses)
		w.still(t, "what Unroll answers")
	}
	eachCircuit(153, func(r *rand.Rand, a impl.Aig) {
		check(r, a, r.IntN(2+impl.VarMax/nodeCount(a)))
	})
	r := drawer(154)
	for _, a := range wrongAigs() {
		if a.Inputs >= 0 && a.Inputs < 99 {
			check(r, a, 2)
		}
	}
}

func TestSessionsLeaveLinesAsTheyAre(t *testing.T) {
	r := drawer(155)
	for range 50 {
		lines := []string{}
		for range r.IntN(35) {
			lines = append(lines, drawLine(r, mustMach(t, example)))
		}
		given := withRoom(lines, "room")
		before := fmt.Sprintf("%q", given[:cap(given)])
		impl.Session(example, given)
		impl.Session("x", given)
		if after := fmt.Sprintf("%q", given[:cap(given)]); after != before {
			t.Fatalf("lines were %s and are %s", before, after)
		}
	}
}

// A session that tells just its own text, or line, tells it in new memory.
func TestSessionsAreNew(t *testing.T) {
	text := strings.Clone(example)
	lines := []string{strings.Clone("what\n"), strings.Clone("stuck\n")}
	for _, told := range []string{impl.Session(text, nil), impl.Session(text, lines[:1]), impl.Session(text, lines)} {
		if within(told, text) || within(text, told) || within(lines[0], told) || within(lines[1], told) {
			t.Errorf("%q lies in what was given", told)
		}
	}
}

// No call keeps anything of circuits of machines: the same is answered again, whatever became of an answer.
func TestNothingIsKeptOfCompiling(t *testing.T) {
	m := mustMach(t, "var a : bool; init false; next !a; var b : bool; init false; next b, a & !b; always p : !(a & b); always q : a | !b | true;")
	ask := func() string {
		a, ok := impl.Compile(m)
		c, fine := impl.Unroll(a, 3)
		text := fmt.Sprint(a, ok, c, fine, impl.Session(example, exampleLines))
		wipeAig(a)
		apart(t, "Unroll", c.Clauses)
		return text
	}
	first := ask()
	impl.Compile(impl.Mach{})
	impl.Compile(crowded(321, yes()))
	impl.Unroll(full(), 1)
	impl.Session("var a : bool; init true; next a;", slices.Repeat([]string{"circuit"}, 40))
	if again := ask(); again != first {
		t.Errorf("%s, and again %s", first, again)
	}
}

// Of a circuit, and of clauses, that are made anew each list stands for itself.
func TestListsOfCompiledAreApart(t *testing.T) {
	eachTruths(156, 300, func(r *rand.Rand, m impl.Mach) {
		a, ok := impl.Compile(m)
		if !ok {
			return
		}
		again, _ := impl.Compile(m)
		before := fmt.Sprint(a.Ands, a.Bads)
		wiped(a.Latches, impl.Latch{Next: -9900})
		if after := fmt.Sprint(a.Ands, a.Bads); after != before {
			t.Fatalf("%s and is %s", before, after)
		}
		wipeAig(a)
		if other, _ := compileByHand(m); !sameAig(again, other) {
			t.Fatalf("%v, want %v", again, other)
		}
	})
}
