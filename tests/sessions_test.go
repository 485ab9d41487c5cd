package tests

import (
	"fmt"
	"math/rand/v2"
	"runtime"
	"slices"
	"strings"
	"sync"
	"testing"
	"time"

	"loop.example/registrar/impl"
)

// exampleLines and exampleAnswers are of the document.
var exampleLines = []string{"check low", "check even", "check near", "check lost", "reach", "stuck", "walk 1 0 3 7", "circuit", "what"}

const exampleAnswers = "broken\n  x=1 up=1\n  x=3 up=0\n  x=5 up=0\nbroken\n  x=1 up=1\nholds by 1\nno rule\n11 of 12\nstuck\nwalk\n  x=1 up=1\n  x=3 up=0\n  x=5 up=1\n  x=0 up=1\nno circuit\nwhat\n"

func wantSession(t *testing.T, what string, text string, lines []string, want string) {
	t.Helper()
	if got := impl.Session(text, lines); got != want {
		t.Errorf("%s: %q, want %q", what, got, want)
	}
}

func TestSessionOfTheDocument(t *testing.T) {
	wantSession(t, "all", example, exampleLines, example+exampleAnswers)
	wantSession(t, "no lines", example, nil, example)
	wantSession(t, "an empty list of lines", example, []string{}, example)
	wantSession(t, "with blanks", " "+strings.ReplaceAll(example, "\n", "  \n\n"), exampleLines, example+exampleAnswers)
	wantSession(t, "with no newline", strings.ReplaceAll(example, "\n", " "), exampleLines, example+exampleAnswers)
	wantSession(t, "with brackets that are not needed", strings.Replace(example, "x + 2", "(((x) + 2))", 1), exampleLines, example+exampleAnswers)
}

// P45
func TestSessionsTellWhatLinesAsk(t *testing.T) {
	met := map[string]int{}
	none := 0
	check := func(r *rand.Rand, m impl.Mach) {
		text := withGaps(r, machPutByHand(m))
		if r.IntN(20) == 0 {
			text = strings.Replace(text, ";", "", 1)
		}
		lines := []string{}
		for range r.IntN(12) {
			lines = append(lines, drawLine(r, m))
		}
		got := impl.Session(text, lines)
		if want := sessionByHand(text, lines); got != want {
			t.Fatalf("%q, %q: %q, want %q", text, lines, got, want)
		}
		if got == "no machine\n" {
			none++
			return
		}
		wantAnswerForEach(t, text, lines, got)
		for _, word := range aWord.FindAllString(strings.TrimPrefix(got, machPutByHand(m)), -1) {
			met[word]++
		}
	}
	eachGoing(141, 700, func(r *rand.Rand, v *moves) { check(r, v.m) })
	eachTruths(142, 300, check)
	for _, word := range []string{"broken", "holds", "by", "rule", "of", "stuck", "walk", "circuit", "aag", "what"} {
		if met[word] < 20 {
			t.Errorf("%q was answered %d times", word, met[word])
		}
	}
	if none < 20 {
		t.Errorf("%d texts were no machines", none)
	}
}

// wantAnswerForEach looks whether a session is its machine, and what each line alone is answered by.
func wantAnswerForEach(t *testing.T, text string, lines []string, got string) {
	t.Helper()
	m, _ := impl.MachGet(text)
	head := impl.MachPut(m)
	want := head
	for _, line := range lines {
		alone := impl.Session(text, []string{line})
		answer, found := strings.CutPrefix(alone, head)
		if !found || answer == "" || !strings.HasSuffix(answer, "\n") {
			t.Fatalf("%q, %q: %q", text, line, alone)
		}
		want += answer
	}
	if got != want {
		t.Fatalf("%q, %q: %q, want %q", text, lines, got, want)
	}
}

func TestSessionsOfNoMachine(t *testing.T) {
	for _, text := range []string{
		"", " ", "x", "no machine", "reach", "var", "\x00", "\xff", "var a : bool;", "var a : bool; init true; next a", "always p : true;",
		"var a : bool; init a; next a;", "var a : 1..0; init 1; next a;", "var a : 0..500; init 0; next a;", "var a : bool; init true; next b;",
		"var a : bool; init true; next a; always p : 1;", "var a : bool; init true; next a; reach", strings.Repeat(" ", impl.TextMax+1), example + "\t", example + example,
		example + strings.Repeat(" ", impl.TextMax+1-len(example)),
	} {
		for _, lines := range [][]string{nil, {"reach"}, exampleLines, make([]string, 31)} {
			wantSession(t, fmt.Sprintf("%q", text), text, lines, "no machine\n")
		}
	}
	// just as many bytes as there may be
	wantSession(t, "TextMax", example+strings.Repeat(" ", impl.TextMax-len(example)), []string{"reach"}, example+"11 of 12\n")
}

func TestSessionsOfManyLines(t *testing.T) {
	// each line is answered by something else: a walk of one number more
	walks := func(many int) []string {
		lines := []string{}
		for i := range many {
			lines = append(lines, "walk"+strings.Repeat(" 0", i))
		}
		return lines
	}
	small := "var a : 0..99; init 0; next a + 1;"
	head := "var a : 0..99;\ninit 0;\nnext a + 1;\n"
	answers := func(many int) string {
		text := ""
		for i := range many {
			text += "walk\n"
			for n := range i {
				text += fmt.Sprintf("  a=%d\n", n)
			}
		}
		return text
	}
	for _, many := range []int{0, 1, 2, 29, 30} {
		wantSession(t, fmt.Sprint(many), small, walks(many), head+answers(many))
	}
	for _, many := range []int{31, 32, 60, 1000} {
		wantSession(t, fmt.Sprint(many), small, walks(many), head+answers(30))
	}
	wantSession(t, "what is behind 30", small, append(make([]string, 30), "reach"), head+strings.Repeat("what\n", 30))
	wantSession(t, "the last of 30", small, append(make([]string, 29), "reach"), head+strings.Repeat("what\n", 29)+"100 of 100\n")
	wantSession(t, "one line, 30 times", example, slices.Repeat([]string{"check low"}, 30), example+strings.Repeat("broken\n  x=1 up=1\n  x=3 up=0\n  x=5 up=0\n", 30))
}

// Lines of each kind, and lines that are nearly such.
func TestLinesOfSessions(t *testing.T) {
	low := "broken\n  x=1 up=1\n  x=3 up=0\n  x=5 up=0\n"
	for _, c := range []struct {
		want  string
		lines []string
	}{
		{"what\n", []string{"", " ", "\n", " \n  \n", "\t", "what", "what what", "lost", "x", "0", "\x00", "\xff", "reach;", "machine"}},
		{"what\n", []string{"check", " check ", "check low even", "check low low", "check low 0", "Check low", "checks low", "checklow", "low", "low check", "check\tlow", "check low\t lost", "always low"}},
		{"no rule\n", []string{"check lost", "check Low", "check lo", "check lowe", "check x", "check up", "check 0", "check -1", "check check", "check always", "check \xff", "check low;", "check low\t", "check abcdefghijk", "check !low", "check reach"}},
		{low, []string{"check low", " check low", "check low ", "  check   low  ", "check\nlow", "\ncheck \n low\n"}},
		{"broken\n  x=1 up=1\n", []string{"check even", "check  even"}},
		{"holds by 1\n", []string{"check near", " check near\n"}},
		{"11 of 12\n", []string{"reach", " reach", "reach ", "\nreach\n"}},
		{"what\n", []string{"reach reach", "reach 1", "reach low", "Reach", "reached", "rea ch", "reach\t", "\treach", "reach."}},
		{"stuck\n", []string{"stuck", "  stuck", "stuck\n"}},
		{"what\n", []string{"stuck 1", "stuck stuck", "STUCK", "stucks"}},
		{"no circuit\n", []string{"circuit", " circuit ", "\n\ncircuit"}},
		{"what\n", []string{"circuit 1", "circuits", "circuit circuit", "no circuit"}},
		{"walk\n", []string{"walk", " walk", "walk ", "\nwalk\n"}},
		{"what\n", []string{"Walk", "walks", "walk\t0", "wal k", "0 walk", "walk0", "\twalk 0"}},
		{"walk\n  x=0 up=1\n", []string{"walk 0", " walk  0 ", "walk\n0", "walk 2", "walk -2", "walk 99998", "walk -99998"}},
		// there are two: -1 is the last of them, as each odd number is
		{"walk\n  x=1 up=1\n", []string{"walk 1", "walk -1", "walk 99999", "walk -99999", "walk 3", "walk -3"}},
		{"walk\n  x=1 up=1\n", []string{"walk x", "walk -0", "walk 00", "walk 02", "walk -02", "walk +0", "walk 100000", "walk -100000", "walk 1e1", "walk 0.0", "walk -", "walk --2", "walk walk", "walk 0\t", "walk 0x0", "walk \xff", "walk 0,", "walk 2;", "walk low", "walk 000000"}},
		{"walk\n  x=1 up=1\n  x=3 up=0\n  x=5 up=1\n", []string{"walk 1 0 1", "walk  x  2  lost ", "walk\n-1\n-2\n-1", "walk 00 0 00", "walk 99999 99998 100000"}},
	} {
		for _, line := range c.lines {
			wantSession(t, fmt.Sprintf("%q", line), example, []string{line}, example+c.want)
			wantSession(t, fmt.Sprintf("%q twice", line), example, []string{line, line}, example+c.want+c.want)
		}
	}
}

func TestWalksOfSessions(t *testing.T) {
	small := "var a : 0..99; init 0; next a + 1;"
	head := "var a : 0..99;\ninit 0;\nnext a + 1;\n"
	walked := "walk\n"
	for n := range impl.StepMax {
		walked += fmt.Sprintf("  a=%d\n", n)
	}
	for _, word := range []string{"0", "7", "-7", "x", "00", "100000"} {
		wantSession(t, "just StepMax", small, []string{"walk" + strings.Repeat(" "+word, impl.StepMax)}, head+walked)
		wantSession(t, "one more", small, []string{"walk" + strings.Repeat(" "+word, impl.StepMax+1), "reach"}, head+"walk\n100 of 100\n")
		wantSession(t, "many more", small, []string{"walk" + strings.Repeat(" "+word, 3000)}, head+"walk\n")
	}
	wantSession(t, "gets stuck", "var a : 0..2; init 1; next a + 1;", []string{"walk 0 0 0 0", "stuck", "reach"}, "var a : 0..2;\ninit 1;\nnext a + 1;\nwalk\n  a=1\n  a=2\nstuck\n  a=2\n2 of 3\n")
}

func TestMachinesOfSessions(t *testing.T) {
	for _, c := range []struct {
		what  string
		text  string
		lines []string
		want  string
	}{
		{"broken at once", "var a : bool;\ninit true;\nnext a;\nalways p : !a;\n", []string{"check p"}, "broken\n  a=1\n"},
		{"broken in one of those at first", "var a : 0..3;\ninit 2, 1, 3;\nnext a;\nalways p : !(a = 2);\n", []string{"check p"}, "broken\n  a=2\n"},
		{"broken later", "var a : 7..9;\ninit 7;\nnext a + 1;\nalways p : a < 9;\n", []string{"check p", "walk 0 0 0 0"}, "broken\n  a=7\n  a=8\n  a=9\nwalk\n  a=7\n  a=8\n  a=9\n"},
		{"holds by one", "var a : bool;\ninit true;\nnext a;\nalways p : a;\n", []string{"check p"}, "holds by 1\n"},
		{"holds by several", "var a : 0..4;\ninit 0;\nnext if a = 0 then 1 else if a = 1 then 0 else a + 1;\nalways low : a < 4;\n", []string{"check low"}, "holds by 3\n"},
		{"holds by none", "var a : 0..11;\ninit 0;\nnext if a = 0 then 1 else if a = 1 then 0 else a + 1;\nalways low : a < 11;\n", []string{"check low"}, "holds\n"},
		{"holds by as many as are looked at", "var a : 0..9;\ninit 0;\nnext if a = 0 then 1 else if a = 1 then 0 else a + 1;\nalways low : a < 9;\n", []string{"check low"}, "holds by 8\n"},
		{"holds by one more than are looked at", "var a : 0..10;\ninit 0;\nnext if a = 0 then 1 else if a = 1 then 0 else a + 1;\nalways low : a < 10;\n", []string{"check low"}, "holds\n"},
		{"a rule of the name of a declaration", "var a : bool;\ninit true;\nnext a;\nalways a : !a;\n", []string{"check a"}, "broken\n  a=1\n"},
		{"each rule", "var a : 0..3;\ninit 0;\nnext a + 1;\nalways p : a < 1;\nalways q : a < 2;\nalways r : a < 4;\nalways s : a < 3;\n", []string{"check s", "check r", "check q", "check p", "check t"}, "broken\n  a=0\n  a=1\n  a=2\n  a=3\nholds by 1\nbroken\n  a=0\n  a=1\n  a=2\nbroken\n  a=0\n  a=1\nno rule\n"},
		{"no rules", "var a : bool;\ninit true;\nnext a;\n", []string{"check a", "check p", "check"}, "no rule\nno rule\nwhat\n"},
		{"nothing to begin in", "var a : 0..3;\ninit 4;\nnext a;\nalways p : false;\n", []string{"check p", "reach", "stuck", "walk 0 0", "circuit"}, "holds by 1\n0 of 4\nstuck\nwalk\nno circuit\n"},
		{"stuck at once, in several", "var a : 0..3;\ninit 3, 2;\nnext a + 2;\nvar b : 5..5;\ninit 5;\nnext b;\n", []string{"stuck", "walk 1 1", "reach"}, "stuck\n  a=2 b=5\n  a=3 b=5\nwalk\n  a=3 b=5\n2 of 4\n"},
		{"never stuck", "var a : 0..3;\ninit 3, 2;\nnext a;\n", []string{"stuck"}, "stuck\n"},
		{"one state in all", "var a : 999..999;\ninit 999;\nnext a;\n", []string{"reach", "walk -1 -1"}, "1 of 1\nwalk\n  a=999\n  a=999\n"},
		{"a circuit", "var a : bool;\ninit true;\nnext !a;\nalways p : a;\n", []string{"circuit", "reach"}, "aag 1 0 1 0 0 1\n2 3 1\n3\n2 of 2\n"},
		{"a circuit, twice", "var a : bool;\ninit true;\nnext a, b;\nvar b : bool;\ninit false;\nnext a & b;\n", []string{"circuit", "circuit"}, strings.Repeat("aag 7 1 2 0 4 0\n2\n4 13 1\n6 14 0\n8 2 6\n10 3 4\n12 9 11\n14 4 6\n", 2)},
		{"no circuit for two of Init", "var a : bool;\ninit true, false;\nnext a;\n", []string{"circuit", "reach"}, "no circuit\n2 of 2\n"},
		{"no circuit for a number in a rule", "var a : bool;\ninit true;\nnext a;\nalways p : 1 < 2;\n", []string{"circuit", "check p"}, "no circuit\nholds by 1\n"},
	} {
		wantSession(t, c.what, c.text, c.lines, machPutByHand(mustMach(t, c.text))+c.want)
	}
	five := "var a : bool;\ninit true;\nnext d;\nvar b : bool;\ninit true;\nnext a;\nvar c : bool;\ninit false;\nnext b;\nvar d : bool;\ninit false;\nnext c;\nvar abcdefgh : 10..12;\ninit 12;\nnext 22 - abcdefgh;\n"
	wantSession(t, "five names", five, []string{"walk 0 0", "reach"}, five+"walk\n  a=1 b=1 c=0 d=0 abcdefgh=12\n  a=0 b=1 c=1 d=0 abcdefgh=10\n4 of 48\n")
}

func TestSessionsOfMachinesWithoutCircuits(t *testing.T) {
	for what, text := range wrongForCircuits() {
		m := mustMach(t, text)
		wantSession(t, what, text, []string{"circuit", " circuit\n"}, machPutByHand(m)+"no circuit\nno circuit\n")
	}
	for ands := impl.AndMax; ands <= impl.AndMax+1; ands++ {
		m := manyPairs(t, ands)
		answer := "no circuit\n"
		if a, ok := compileByHand(m); ok {
			answer = putByHand(a)
		}
		wantSession(t, fmt.Sprint(ands), machPutByHand(m), []string{"circuit"}, machPutByHand(m)+answer)
		if (answer == "no circuit\n") != (ands > impl.AndMax) {
			t.Errorf("%d ands: %q", ands, answer)
		}
	}
}

func TestSessionsOfMostStates(t *testing.T) {
	m := mustMach(t, ring)
	v := movesOf(m)
	want := machPutByHand(m) + "broken\n" + v.shown(v.reached()) + "broken\n" + v.shown(v.reached()[:251]) + "holds by 1\n500 of 500\nstuck\n"
	wantSession(t, "ring", ring, []string{"check most", "check mid", "check all", "reach", "stuck"}, want)
}

// Who answers is gone when a session is over, however many lines it had.
func TestSessionsLeaveNobodyBehind(t *testing.T) {
	before := runtime.NumGoroutine()
	for many := range 40 {
		impl.Session(example, slices.Repeat([]string{"reach"}, many))
		impl.Session("x", slices.Repeat([]string{"reach"}, many))
	}
	// whoever has told all may need a moment to be gone
	for range 1000 {
		if runtime.NumGoroutine() <= before {
			return
		}
		time.Sleep(time.Millisecond)
	}
	t.Errorf("%d were there, and %d are", before, runtime.NumGoroutine())
}

func TestSessionsSideBySide(t *testing.T) {
	got := make([]string, 16)
	var all sync.WaitGroup
	for i := range got {
		all.Add(1)
		go func() {
			defer all.Done()
			got[i] = impl.Session(example, exampleLines[i%4:])
		}()
	}
	all.Wait()
	for i, text := range got {
		if want := impl.Session(example, exampleLines[i%4:]); text != want {
			t.Errorf("%d: %q, want %q", i, text, want)
		}
	}
}
