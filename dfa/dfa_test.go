package dfa_test

import (
	"math"
	"reflect"
	"slices"
	"strings"
	"testing"

	"gleaner/api"
	. "gleaner/dfa"
	"gleaner/nfa"
	"gleaner/rx"
	"gleaner/rxtext"
)

func build(t *testing.T, s string) api.Nfa {
	x, _, _ := rx.Parse(s)
	n, code := nfa.Build(x)
	if code != api.OK {
		t.Fatalf("%q: %d", s, code)
	}
	return n
}

func make120(t *testing.T, s string) api.Dfa {
	d, code := Make(build(t, s), 120)
	if code != api.OK {
		t.Fatalf("%q: %d", s, code)
	}
	return d
}

// grouped are Groups in which each byte of s[i] is of the group i+1.
func grouped(s ...string) []int {
	out := make([]int, 256)
	for i, bytes := range s {
		for k := range len(bytes) {
			out[bytes[k]] = i + 1
		}
	}
	return out
}

func patterns() []string {
	return []string{"", "a", "ab", "a|b", "a|", "()*", "(a|b)*a", "a{2,3}", "a{2,}", "a{0}", "(ab|c)+d?", "((a|b)c*){2}", "(a*)*b", "[a-b]{0,4}c", ".*b.", "(a?b?){3}", "a{20}", "(|a)(b|)", "[^a]*", `\x00+`, `[\x80-\xff]b`, "(a|b)*a(a|b){5}"}
}

func texts() []string {
	out := []string{""}
	for i := 0; len(out[i]) < 4; i++ {
		out = append(out, out[i]+"a", out[i]+"b", out[i]+"c", out[i]+"d")
	}
	return append(out, strings.Repeat("a", 20), strings.Repeat("a", 19), "abababab", "\xff", "b\x00", "\x00\x00", "\x80b")
}

func TestP11_1Make(t *testing.T) {
	for s, want := range map[string]api.Dfa{
		"a":   {Groups: grouped("a"), Width: 2, Next: []int{1, 2, 1, 1, 1, 1}, Final: []bool{false, false, true}},
		"":    {Groups: grouped(), Width: 1, Next: []int{1, 1}, Final: []bool{true, false}},
		".*":  {Groups: grouped(), Width: 1, Next: []int{1, 1}, Final: []bool{true, true}},
		"b|a": {Groups: grouped("a", "b"), Width: 3, Next: []int{1, 2, 3, 1, 1, 1, 1, 1, 1, 1, 1, 1}, Final: []bool{false, false, true, true}},
	} {
		if d := make120(t, s); !reflect.DeepEqual(d, want) {
			t.Errorf("%q: %v", s, d)
		}
	}
	if d := make120(t, `[\x00-c][b-\xff]`); d.Width != 3 || d.Groups[0] != 0 || d.Groups['b'] != 1 || d.Groups['c'] != 1 || d.Groups['d'] != 2 || d.Groups[255] != 2 {
		t.Error(d.Groups, d.Width)
	}
	if d, code := Make(build(t, "a"), 3); code != api.OK || len(d.Final) != 3 {
		t.Error(d, code)
	}
	all := api.Class{}
	for i := range all {
		all[i] = ^uint64(0)
	}
	if d, code := Make(api.Nfa{Size: 1, Edges: []api.Edge{{Class: all}}}, 1); code != api.OK || len(d.Final) != 1 || !d.Final[0] {
		t.Error(d, code)
	}
	for _, c := range []struct {
		n    api.Nfa
		most int
		code api.Errno
	}{
		{build(t, "a"), 2, api.ErrComplex}, {build(t, "a"), 0, api.ErrArg}, {build(t, "a"), math.MinInt, api.ErrArg}, {api.Nfa{}, 9, api.ErrArg}, {build(t, "(a|b)*a(a|b){7}"), 120, api.ErrComplex}, {build(t, "(a|b)*a(a|b){7}"), math.MaxInt, api.ErrComplex}, {build(t, "(a|b)*a(a|b){18}"), 1000, api.ErrComplex},
	} {
		if d, code := Make(c.n, c.most); code != c.code || !reflect.DeepEqual(d, api.Dfa{}) {
			t.Error(c.most, code)
		}
	}
	if d := make120(t, "(a{19}){6}a{3}"); len(d.Final) != 119 {
		t.Error(len(d.Final))
	}
	if d := make120(t, "(a{19}){6}a{4}"); len(d.Final) != 120 {
		t.Error(len(d.Final))
	}
	if _, code := Make(build(t, "(a{19}){6}a{5}"), 500); code != api.ErrComplex {
		t.Error(code)
	}
}

// wrong are automata that are not right.
func wrong() []api.Dfa {
	good := api.Dfa{Groups: grouped("a"), Width: 2, Next: []int{1, 1, 0, 0}, Final: []bool{false, true}}
	l := make([]api.Dfa, 13)
	for i := range l {
		l[i] = good
	}
	l[0].Groups = good.Groups[:255]
	l[1].Width = 1
	l[2].Width = 3
	l[3].Start = 2
	l[4].Start = -1
	l[5].Next = []int{1, 1, 0, 2}
	l[6].Next = []int{1, 1, 0, -1}
	l[7].Next = good.Next[:3]
	l[8].Final = good.Final[:1]
	l[9].Groups = append(slices.Clone(good.Groups), 0)
	l[10].Groups = slices.Repeat([]int{-1}, 256)
	l[11].Width = math.MaxInt
	l[12] = api.Dfa{Groups: grouped(), Width: 1, Next: make([]int, 14401), Final: make([]bool, 14401)}
	return append(l, api.Dfa{}, api.Dfa{Groups: grouped("a"), Width: 1, Next: []int{0}, Final: []bool{true}}, api.Dfa{Groups: grouped(), Width: 257, Next: make([]int, 257), Final: make([]bool, 1)}, api.Dfa{Groups: grouped(), Width: 1})
}

func TestP11_2Right(t *testing.T) {
	for _, d := range []api.Dfa{
		{Groups: grouped("a"), Width: 2, Next: []int{1, 1, 0, 0}, Final: []bool{false, true}, Start: 1}, {Groups: grouped(), Width: 256, Next: make([]int, 256), Final: make([]bool, 1)}, {Groups: grouped(), Width: 1, Next: make([]int, 14400), Final: make([]bool, 14400)},
	} {
		if !Right(d) {
			t.Error(d.Width, len(d.Final))
		}
	}
	for i, d := range wrong() {
		if Right(d) {
			t.Error(i)
		}
	}
}

func TestP11_3Run(t *testing.T) {
	d := api.Dfa{Groups: grouped("a", "b"), Width: 3, Start: 1, Next: []int{0, 0, 0, 0, 2, 1, 2, 0, 1}, Final: []bool{false, false, true}}
	for s, want := range map[string]bool{"": false, "a": true, "ab": false, "ba": true, "bbaxx": true, "aa": false, "x": false, "bbab": false, "aba": true} {
		if Run(d, s) != want {
			t.Error(s)
		}
	}
	for i, d := range wrong() {
		if Run(d, "") || Run(d, "\xff") {
			t.Error(i)
		}
	}
}

func TestP11_4Reach(t *testing.T) {
	d := api.Dfa{Groups: grouped("a", "b"), Width: 4, Start: 2, Next: []int{0, 0, 0, 4, 1, 1, 1, 4, 3, 2, 0, 4, 1, 3, 3, 4, 4, 4, 4, 4}, Final: make([]bool, 5)}
	if l := Reach(d); !slices.Equal(l, []int{2, 3, 0, 1}) {
		t.Error(l)
	}
	for i, d := range wrong() {
		if l := Reach(d); len(l) != 0 {
			t.Error(i, l)
		}
	}
}

func TestP11_5RunsTheSame(t *testing.T) {
	for _, s := range patterns() {
		n, d := build(t, s), make120(t, s)
		x, _, _ := rx.Parse(s)
		for _, w := range texts() {
			if Run(d, w) != nfa.Run(n, w) || Run(d, w) != rxtext.Match(x, w) {
				t.Errorf("%q of %q", s, w)
			}
		}
	}
}

func TestP11_6MadeIsRight(t *testing.T) {
	for _, s := range patterns() {
		d := make120(t, s)
		all := make([]int, len(d.Final))
		for i := range all {
			all[i] = i
		}
		if !Right(d) || d.Start != 0 || !slices.Equal(Reach(d), all) {
			t.Error(s, Reach(d))
		}
	}
}

func TestP11_7OneGroup(t *testing.T) {
	for _, s := range patterns() {
		d := make120(t, s)
		for a := range 256 {
			b := slices.Index(d.Groups, d.Groups[a])
			for _, w := range []string{"?", "a?", "?b", "?\x00?", "ba?c"} {
				if Run(d, strings.ReplaceAll(w, "?", string([]byte{byte(a)}))) != Run(d, strings.ReplaceAll(w, "?", string([]byte{byte(b)}))) {
					t.Errorf("%q: %d and %d", s, a, b)
				}
			}
		}
	}
}
