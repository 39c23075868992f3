package least_test

import (
	"reflect"
	"slices"
	"strings"
	"testing"
	"time"

	"gleaner/api"
	"gleaner/dfa"
	. "gleaner/least"
	"gleaner/nfa"
	"gleaner/rx"
)

func build(t *testing.T, s string) api.Dfa {
	x, _, _ := rx.Parse(s)
	n, _ := nfa.Build(x)
	d, code := dfa.Make(n, 120)
	if code != api.OK {
		t.Fatalf("%q: %d", s, code)
	}
	return d
}

func least(t *testing.T, d api.Dfa) api.Dfa {
	l, code := Least(d)
	if code != api.OK {
		t.Fatal(code)
	}
	return l
}

func patterns() []string {
	return []string{"", "a", "ab", "a|b", "[ab]", "a*a*", "a*", "()*", "(a|b)*a", "a{2,3}", "a{2,}", "aa+", "(ab|c)+d?", "((a|b)c*){2}", "(a*)*b", "[a-b]{0,4}c", ".*b.", "(a?b?){3}", "a{20}", "(|a)(b|)", "[^a]*", `\x00+`, `[\x80-\xff]b`, "(a|b)*a(a|b){5}", ".*", "(b|a)*a", "ab|ac|ad", "a(b|c|d)", "c|d|[ab]c|[ab]d"}
}

// odd are automata by a rule, with states that are not reached, and groups that have no bytes.
func odd() []api.Dfa {
	var out []api.Dfa
	seed := 7
	next := func(n int) int {
		seed = (seed*1103 + 12345) % 65521
		return seed % n
	}
	for range 300 {
		d := api.Dfa{Width: 1 + next(5), Groups: make([]int, 256)}
		for c := range d.Groups {
			d.Groups[c] = next(d.Width)
			if next(3) > 0 {
				d.Groups[c] = 0
			}
		}
		for range 1 + next(9) {
			d.Final = append(d.Final, next(3) == 0)
		}
		for range len(d.Final) * d.Width {
			d.Next = append(d.Next, next(len(d.Final)))
		}
		d.Start = next(len(d.Final))
		out = append(out, d)
	}
	return out
}

// firsts are a byte of each group that has one.
func firsts(d api.Dfa) []byte {
	var out []byte
	for g := range d.Width {
		if c := slices.Index(d.Groups, g); c >= 0 {
			out = append(out, byte(c))
		}
	}
	return out
}

// apart is a shortest text that one of two states runs, and the other one does not; false, if there is none.
func apart(d api.Dfa, a, b int) (string, bool) {
	type pair struct {
		a, b int
		s    string
	}
	seen := map[[2]int]int{}
	l := []pair{{a, b, ""}}
	for k := 0; k < len(l); k++ {
		p := l[k]
		if d.Final[p.a] != d.Final[p.b] {
			return p.s, true
		}
		for _, c := range firsts(d) {
			q := pair{d.Next[p.a*d.Width+d.Groups[c]], d.Next[p.b*d.Width+d.Groups[c]], p.s + string([]byte{c})}
			if seen[[2]int{q.a, q.b}] == 0 {
				seen[[2]int{q.a, q.b}] = 1
				l = append(l, q)
			}
		}
	}
	return "", false
}

func words(d api.Dfa) []string {
	out := []string{""}
	letters := firsts(d)
	for i := 0; i < len(out) && len(out) < 3000; i++ {
		for _, c := range letters {
			out = append(out, out[i]+string([]byte{c}))
		}
	}
	return out
}

func TestP12_1Least(t *testing.T) {
	groups := make([]int, 256)
	groups['a'], groups['b'] = 1, 1
	want := api.Dfa{Groups: groups, Width: 2, Next: []int{1, 2, 1, 1, 1, 1}, Final: []bool{false, false, true}}
	for _, s := range []string{"a|b", "[ab]", "b|a"} {
		if d := least(t, build(t, s)); !reflect.DeepEqual(d, want) {
			t.Error(s, d)
		}
	}
	for s, states := range map[string]int{"": 2, ".*": 1, "a*": 2, "a*a*": 2, "(a|b)*a(a|b){5}": 65, "a{20}": 22, "ab|ac|ad": 4} {
		if d := least(t, build(t, s)); len(d.Final) != states {
			t.Error(s, len(d.Final))
		}
	}
	for _, d := range []api.Dfa{{}, {Width: 1, Final: []bool{true}, Next: []int{0}}, {Groups: groups, Width: 2, Next: []int{0, 7}, Final: []bool{true}}} {
		if l, code := Least(d); code != api.ErrArg || !reflect.DeepEqual(l, api.Dfa{}) {
			t.Error(d, code)
		}
	}
	for _, d := range odd() {
		l := least(t, d)
		if l.Start != 0 || !slices.IsSorted(dfa.Reach(l)) || len(dfa.Reach(l)) != len(l.Final) {
			t.Fatal("states are not in order", l)
		}
		if f := firsts(l); !slices.IsSorted(f) || len(f) != l.Width {
			t.Fatal("groups are not in order", l)
		}
		for g := range l.Width {
			for h := range g {
				alike := true
				for s := range l.Final {
					alike = alike && l.Next[s*l.Width+g] == l.Next[s*l.Width+h]
				}
				if alike {
					t.Fatal("two groups are one", l)
				}
			}
		}
	}
}

func TestP12_1Great(t *testing.T) {
	// A long row, and 256 groups: neither may take a time that grows with the square.
	d := api.Dfa{Groups: make([]int, 256), Width: 256, Final: make([]bool, 14400)}
	for c := range 256 {
		d.Groups[c] = c
	}
	for s := range 14400 {
		for c := range 256 {
			d.Next = append(d.Next, min(s+1+c%2, 14399))
		}
	}
	d.Final[14399] = true
	start := time.Now()
	if l := least(t, d); len(l.Final) != 14400 || l.Width != 2 {
		t.Error(len(l.Final), l.Width)
	}
	if time.Since(start) > time.Minute {
		t.Error("too slow")
	}
}

func TestP12_2Same(t *testing.T) {
	d := build(t, "ab*")
	l := make([]api.Dfa, 5)
	for i := range l {
		l[i] = build(t, "ab*")
	}
	if !Same(d, l[0]) || !Same(api.Dfa{}, api.Dfa{Next: []int{}}) {
		t.Error("not the same")
	}
	l[0].Groups[9] = 1
	l[1].Width++
	l[2].Start++
	l[3].Next[1]++
	l[4].Final[1] = !l[4].Final[1]
	for i := range l {
		if Same(d, l[i]) || Same(l[i], d) {
			t.Error(i)
		}
	}
}

func TestP12_3RunsTheSame(t *testing.T) {
	all := odd()
	for _, s := range patterns() {
		all = append(all, build(t, s))
	}
	for _, d := range all {
		l := least(t, d)
		if !dfa.Right(l) || len(l.Final) > len(d.Final) || !Same(least(t, l), l) {
			t.Fatal(d, l)
		}
		for _, w := range words(d) {
			if dfa.Run(d, w) != dfa.Run(l, w) {
				t.Fatalf("%v %v %q", d, l, w)
			}
		}
	}
}

func TestP12_4SameJustIfTheSameTexts(t *testing.T) {
	for _, s := range [][]string{{"a|b", "[ab]"}, {"a*a*", "a*", "(a*)*", "(a|)*"}, {"aa+", "a{2,}", "a+a"}, {"ab|ac|ad", "a(b|c|d)"}, {"(a|b)*", "(a*b*)*"}, {"", "()", "()*", "a{0}"}} {
		for _, u := range s {
			if !Same(least(t, build(t, u)), least(t, build(t, s[0]))) {
				t.Error(u, s[0])
			}
		}
	}
	unlike := []string{"", "a", "a*", "a+", "aa", "[ab]", "ab", ".", ".*", "a|ab"}
	for i, s := range unlike {
		for k, u := range unlike {
			if Same(least(t, build(t, s)), least(t, build(t, u))) != (i == k) {
				t.Error(s, u)
			}
		}
	}
}

func TestP12_5ToldApart(t *testing.T) {
	all := odd()[:100]
	for _, s := range patterns() {
		if !strings.Contains(s, "{5}") {
			all = append(all, build(t, s))
		}
	}
	for _, d := range all {
		l := least(t, d)
		for a := range l.Final {
			for b := range a {
				if s, ok := apart(l, a, b); !ok || len(s) >= len(l.Final) {
					t.Fatal(l, a, b, s)
				}
			}
		}
	}
}
