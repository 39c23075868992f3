package nfa_test

import (
	"math"
	"reflect"
	"strings"
	"testing"

	"gleaner/api"
	. "gleaner/nfa"
	"gleaner/rx"
	"gleaner/rxtext"
)

func read(t *testing.T, s string) api.Rx {
	x, at, code := rx.Parse(s)
	if code != api.OK {
		t.Fatalf("%q: %d %d", s, at, code)
	}
	return x
}

func build(t *testing.T, s string) api.Nfa {
	n, code := Build(read(t, s))
	if code != api.OK {
		t.Fatalf("%q: %d", s, code)
	}
	return n
}

// edges makes edges of three things each: from, to, and a byte, or "" for a free one.
func edges(l ...any) []api.Edge {
	var out []api.Edge
	for i := 0; i+2 < len(l); i += 3 {
		e := api.Edge{From: l[i].(int), To: l[i+1].(int), Free: l[i+2] == ""}
		if !e.Free {
			e.Class = rx.Single(l[i+2].(string)[0])
		}
		out = append(out, e)
	}
	return out
}

func patterns() []string {
	return []string{"", "a", "ab", "a|b", "a|", "()*", "(a|b)*a", "a{2,3}", "a{2,}", "a{0}", "(ab|c)+d?", "((a|b)c*){2}", "(a*)*b", "[a-b]{0,4}c", ".*b.", "(a?b?){3}", "a{20}", "(|a)(b|)"}
}

func words() []string {
	out := []string{""}
	for i := 0; len(out[i]) < 4; i++ {
		out = append(out, out[i]+"a", out[i]+"b", out[i]+"c", out[i]+"d")
	}
	return append(out, strings.Repeat("a", 20), strings.Repeat("a", 19), "abababab", "\xff", "b\x00")
}

func TestP10_1Build(t *testing.T) {
	for s, want := range map[string]api.Nfa{
		"a":      {Size: 2, Final: 1, Edges: edges(0, 1, "a")},
		"":       {Size: 2, Final: 1, Edges: edges(0, 1, "")},
		"a{0}":   {Size: 2, Final: 1, Edges: edges(0, 1, "")},
		"ab":     {Size: 6, Final: 1, Edges: edges(2, 3, "a", 0, 2, "", 4, 5, "b", 3, 4, "", 5, 1, "")},
		"a|b":    {Size: 6, Final: 1, Edges: edges(2, 3, "a", 0, 2, "", 3, 1, "", 4, 5, "b", 0, 4, "", 5, 1, "")},
		"a*":     {Size: 4, Final: 1, Edges: edges(2, 3, "a", 0, 2, "", 0, 1, "", 3, 2, "", 3, 1, "")},
		"a+":     {Size: 6, Final: 1, Edges: edges(2, 3, "a", 0, 2, "", 4, 5, "a", 3, 4, "", 3, 1, "", 5, 4, "", 5, 1, "")},
		"a{1,2}": {Size: 6, Final: 1, Edges: edges(2, 3, "a", 0, 2, "", 4, 5, "a", 3, 4, "", 3, 1, "", 5, 1, "")},
		"a{2}":   {Size: 6, Final: 1, Edges: edges(2, 3, "a", 0, 2, "", 4, 5, "a", 3, 4, "", 5, 1, "")},
		"a?":     {Size: 4, Final: 1, Edges: edges(2, 3, "a", 0, 2, "", 0, 1, "", 3, 1, "")},
	} {
		if n := build(t, s); !reflect.DeepEqual(n, want) {
			t.Errorf("%q: %v", s, n)
		}
	}
	for s, code := range map[string]api.Errno{"(a{20}){20}": api.ErrComplex, "((((a{20}){20}){20}){20}){20}": api.ErrComplex, "((a{20}){9}){1}": api.OK, "(a{19}){10}": api.ErrComplex} {
		n, got := Build(read(t, s))
		if got != code || got != api.OK && !reflect.DeepEqual(n, api.Nfa{}) {
			t.Error(s, n.Size, got)
		}
	}
	kids := make([]api.Rx, 58)
	for i := range kids {
		kids[i] = read(t, "a")
	}
	for _, x := range []api.Rx{{}, {Kind: api.RxMany, Kids: []api.Rx{{Kind: api.RxEmpty}}, Min: 1, Max: 1}, {Kind: api.RxThen, Kids: kids[:1]}} {
		if n, code := Build(x); code != api.ErrArg || !reflect.DeepEqual(n, api.Nfa{}) {
			t.Error(x, n, code)
		}
	}
}

func TestP10_1JustSoMany(t *testing.T) {
	// A row of 20 letters takes 42 states; nine times, and the two about them, that is 380; a{8} takes 18, a row of both 2 more.
	if n := build(t, "(a{20}){9}a{8}"); n.Size != 400 {
		t.Error(n.Size)
	}
	if _, code := Build(read(t, "(a{20}){9}a{9}")); code != api.ErrComplex {
		t.Error(code)
	}
}

func TestP10_2Right(t *testing.T) {
	good := api.Nfa{Size: 400, Start: 399, Edges: edges(0, 399, "a", 399, 0, "")}
	for _, n := range []api.Nfa{good, {Size: 1}, {Size: 2, Edges: make([]api.Edge, 1600)}} {
		if !Right(n) {
			t.Error(n)
		}
	}
	for _, n := range []api.Nfa{
		{}, {Size: -1}, {Size: 401}, {Size: 2, Start: 2}, {Size: 2, Start: -1}, {Size: 2, Final: 2}, {Size: 2, Final: math.MinInt}, {Size: 2, Edges: edges(0, 2, "a")}, {Size: 2, Edges: edges(2, 0, "a")}, {Size: 2, Edges: edges(-1, 0, "a")},
		{Size: 2, Edges: make([]api.Edge, 1601)}, {Size: 2, Edges: []api.Edge{{Free: true, Class: rx.Single('a')}}}, {Size: math.MaxInt},
	} {
		if Right(n) || Run(n, "") {
			t.Error(n)
		}
	}
}

func TestP10_3Run(t *testing.T) {
	n := api.Nfa{Size: 4, Start: 2, Final: 0, Edges: edges(2, 3, "a", 3, 2, "", 3, 1, "b", 1, 0, "", 0, 0, "")}
	for s, want := range map[string]bool{"ab": true, "aab": true, "b": false, "": false, "abb": false, "a": false} {
		if Run(n, s) != want {
			t.Error(s)
		}
	}
	if !Run(api.Nfa{Size: 1}, "") || Run(api.Nfa{Size: 1}, "a") || Run(api.Nfa{Size: 2, Final: 1, Edges: []api.Edge{{To: 1}}}, "a") {
		t.Error("small ones")
	}
}

func TestP10_4RunsWhatMatches(t *testing.T) {
	for _, s := range patterns() {
		n := build(t, s)
		for _, w := range words() {
			if Run(n, w) != rxtext.Match(read(t, s), w) {
				t.Errorf("%q of %q", s, w)
			}
		}
	}
}

func TestP10_5BuiltIsRight(t *testing.T) {
	most := strings.Repeat("|", 59)
	for _, s := range append(patterns(), most, "("+most[:50]+"){3}", "(((){0,20}){0,8})", "(a{20}){9}a{8}") {
		n, code := Build(read(t, s))
		if code == api.OK && !Right(n) {
			t.Error(s)
		}
	}
}

func TestP10_6Alternatives(t *testing.T) {
	for i, s := range patterns() {
		u := patterns()[(i*5+3)%len(patterns())]
		n, a, b := build(t, "("+s+")|("+u+")"), build(t, s), build(t, u)
		for _, w := range words() {
			if Run(n, w) != (Run(a, w) || Run(b, w)) {
				t.Errorf("%q or %q of %q", s, u, w)
			}
		}
	}
}
