package lang_test

import (
	"reflect"
	"slices"
	"strings"
	"testing"

	"gleaner/api"
	"gleaner/dfa"
	. "gleaner/lang"
	"gleaner/least"
	"gleaner/nfa"
	"gleaner/rx"
)

func build(t *testing.T, s string) api.Dfa {
	x, _, _ := rx.Parse(s)
	n, _ := nfa.Build(x)
	d, code := dfa.Make(n, 120)
	if code != api.OK {
		t.Fatalf("%q: %d", s, code)
	}
	return d
}

// none runs no text.
func none() api.Dfa {
	return api.Dfa{Groups: make([]int, 256), Width: 1, Next: []int{0}, Final: []bool{false}}
}

// long has more states than an automaton that is put together may have, and runs the texts of count bytes.
func long(count int) api.Dfa {
	d := api.Dfa{Groups: make([]int, 256), Width: 1, Final: make([]bool, count+2)}
	for i := range d.Final {
		d.Next = append(d.Next, min(i+1, count+1))
	}
	d.Final[count] = true
	return d
}

func patterns() []string {
	return []string{"", "a", "ab", "a|b", "a*", "(a|b)*a", "a{2,3}", "(ab|c)+", "[a-b]{0,3}c", ".*b.", "(a?b?){3}", "[^a]*", ".*", "b+", "abc|abd", "[b-z]+a"}
}

func words() []string {
	out := []string{""}
	for i := 0; len(out[i]) < 4; i++ {
		out = append(out, out[i]+"a", out[i]+"b", out[i]+"c", out[i]+"x")
	}
	return append(out, "\x00", "\xff\xff", "abab", "bbbbbb")
}

func TestP13_1PutTogether(t *testing.T) {
	for _, s := range patterns() {
		for _, u := range patterns() {
			a, b := build(t, s), build(t, u)
			both, c1 := Both(a, b)
			any, c2 := Any(a, b)
			minus, c3 := Minus(a, b)
			if c1+c2+c3 != api.OK {
				t.Fatal(s, u, c1, c2, c3)
			}
			for _, w := range words() {
				x, y := dfa.Run(a, w), dfa.Run(b, w)
				if dfa.Run(both, w) != (x && y) || dfa.Run(any, w) != (x || y) || dfa.Run(minus, w) != (x && !y) {
					t.Fatalf("%q and %q of %q", s, u, w)
				}
			}
			for _, d := range []api.Dfa{both, any, minus} {
				if l, _ := least.Least(d); !least.Same(l, d) {
					t.Fatal(s, u)
				}
			}
		}
	}
}

func TestP13_1Errors(t *testing.T) {
	a := build(t, "a")
	seven, eleven := api.Dfa{Groups: make([]int, 256), Width: 1}, api.Dfa{Groups: make([]int, 256), Width: 1}
	for i := range 11 {
		eleven.Next = append(eleven.Next, (i+1)%11)
		eleven.Final = append(eleven.Final, i == 0)
	}
	for i := range 13 {
		seven.Next = append(seven.Next, (i+1)%13)
		seven.Final = append(seven.Final, i == 0)
	}
	if d, code := Both(long(118), long(118)); code != api.OK || len(d.Final) != 120 {
		t.Error(code)
	}
	if _, code := Any(long(118), a); code != api.ErrComplex {
		t.Error(code)
	}
	for _, c := range []struct {
		a, b api.Dfa
		code api.Errno
	}{
		{api.Dfa{}, a, api.ErrArg}, {a, api.Dfa{}, api.ErrArg}, {long(200), api.Dfa{}, api.ErrArg}, {long(119), a, api.ErrLong}, {a, long(119), api.ErrLong}, {long(116), a, api.OK}, {seven, eleven, api.ErrComplex},
	} {
		for i, f := range []func(a, b api.Dfa) (api.Dfa, api.Errno){Both, Any, Minus} {
			d, code := f(c.a, c.b)
			if code != c.code || code != api.OK && !reflect.DeepEqual(d, api.Dfa{}) {
				t.Error(i, code, c.code)
			}
		}
	}
}

func TestP13_2Not(t *testing.T) {
	for _, s := range patterns() {
		a := build(t, s)
		final := slices.Clone(a.Final)
		n, code := Not(a)
		if code != api.OK || !slices.Equal(final, a.Final) {
			t.Fatal(s, code)
		}
		for _, w := range words() {
			if dfa.Run(n, w) == dfa.Run(a, w) {
				t.Fatalf("%q of %q", s, w)
			}
		}
		if l, _ := least.Least(n); !least.Same(l, n) {
			t.Error(s)
		}
	}
	if d, code := Not(api.Dfa{}); code != api.ErrArg || !reflect.DeepEqual(d, api.Dfa{}) {
		t.Error(d, code)
	}
	if d, code := Not(long(300)); code != api.OK || len(d.Final) != 302 {
		t.Error(code)
	}
}

func TestP13_3EqualAndEmpty(t *testing.T) {
	for _, c := range []struct {
		s, u string
		want bool
	}{{"a|b", "[ab]", true}, {"a*a*", "a*", true}, {"a", "b", false}, {"", "a{0}", true}, {"a*", "a+", false}, {"aa+", "a{2,}", true}} {
		if Equal(build(t, c.s), build(t, c.u)) != c.want {
			t.Error(c)
		}
	}
	if Equal(api.Dfa{}, api.Dfa{}) || Equal(none(), api.Dfa{}) || Equal(api.Dfa{}, none()) || !Equal(none(), none()) {
		t.Error("Equal of wrong ones")
	}
	for _, s := range patterns() {
		if Empty(build(t, s)) {
			t.Error(s)
		}
		if d, _ := Minus(build(t, s), build(t, s)); !Empty(d) || !Equal(d, none()) {
			t.Error(s)
		}
	}
	far := long(5)
	far.Start = 6
	if !Empty(api.Dfa{}) || !Empty(none()) || !Empty(far) {
		t.Error("Empty")
	}
}

func TestP13_4Shortest(t *testing.T) {
	for s, want := range map[string]string{"": "", "a*": "", "[b-z]+a": "ba", "abc|abd|xy": "xy", "xz|ya|xb": "xb", "(a|b){3}": "aaa", ".*b.": "b\x00", "[^a]{2}": "\x00\x00", "(b|ac)d": "bd", "ba|ab|bb": "ab"} {
		if got, ok := Shortest(build(t, s)); got != want || !ok {
			t.Errorf("%q: %q %v", s, got, ok)
		}
	}
	for _, d := range []api.Dfa{{}, none()} {
		if got, ok := Shortest(d); got != "" || ok {
			t.Error(got, ok)
		}
	}
	if got, ok := Shortest(long(700)); got != strings.Repeat("\x00", 700) || !ok {
		t.Error(len(got), ok)
	}
}

// row runs just the text of count bytes a.
func row(count int) api.Dfa {
	d := long(count)
	d.Groups['a'] = 1
	d.Width = 2
	var next []int
	for _, to := range d.Next {
		next = append(next, count+1, to)
	}
	d.Next = next
	return d
}

func TestP13_5Prefix(t *testing.T) {
	for s, want := range map[string]string{"": "", "a*": "", "abc|abd": "ab", "abc": "abc", "ab.*": "ab", "abc?": "ab", "[ab]c": "", "a(b|c)?": "a", `\xff\x00.`: "\xff\x00", "a+": "a", "(ab)+": "ab"} {
		if got := Prefix(build(t, s)); got != want {
			t.Errorf("%q: %q", s, got)
		}
	}
	if Prefix(api.Dfa{}) != "" || Prefix(none()) != "" {
		t.Error("none")
	}
	for count, want := range map[int]int{599: 599, 600: 600, 601: 600, 900: 600} {
		if got := Prefix(row(count)); got != strings.Repeat("a", want) {
			t.Error(count, len(got))
		}
	}
}

func TestP13_6Finite(t *testing.T) {
	for s, want := range map[string][]string{
		"": {""}, "a(b|c)?": {"a", "ab", "ac"}, "b|ab|a": {"a", "ab", "b"}, "[a-p]": strings.Split("abcdefghijklmnop", ""), "a{20}a{12}": {strings.Repeat("a", 32)}, "(a|b){2}": {"aa", "ab", "ba", "bb"}, `\xff|\x00`: {"\x00", "\xff"},
	} {
		if got, ok := Finite(build(t, s)); !slices.Equal(got, want) || !ok {
			t.Errorf("%q: %q %v", s, got, ok)
		}
	}
	for _, s := range []string{"a*", "[a-q]", "a{20}a{13}", "a|a{20}a{13}", ".*", "ba*", ".", "a{0,16}", ".{12}"} {
		if got, ok := Finite(build(t, s)); got != nil || ok {
			t.Errorf("%q: %q %v", s, got, ok)
		}
	}
	if got, ok := Finite(none()); len(got) != 0 || !ok {
		t.Error(got, ok)
	}
	if got, ok := Finite(api.Dfa{}); len(got) != 0 || ok {
		t.Error(got, ok)
	}
	if got, ok := Finite(build(t, "a{0,15}")); len(got) != 16 || !ok {
		t.Error(got, ok)
	}
}

func TestP13_7Laws(t *testing.T) {
	must := func(d api.Dfa, code api.Errno) api.Dfa {
		if code != api.OK {
			t.Fatal(code)
		}
		return d
	}
	for i, s := range patterns() {
		a, b, c := build(t, s), build(t, patterns()[(i*3+1)%16]), build(t, patterns()[(i*5+2)%16])
		for k, x := range [][2]api.Dfa{
			{must(Both(a, b)), must(Both(b, a))}, {must(Any(a, b)), must(Any(b, a))}, {must(Not(must(Not(a)))), a}, {must(Minus(a, b)), must(Both(a, must(Not(b))))},
			{must(Not(must(Any(a, b)))), must(Both(must(Not(a)), must(Not(b))))}, {must(Both(a, must(Any(b, c)))), must(Any(must(Both(a, b)), must(Both(a, c))))}, {must(Any(a, must(Both(a, b)))), a},
		} {
			if !Equal(x[0], x[1]) {
				t.Error(s, k)
			}
		}
	}
}

func TestP13_8NothingShorter(t *testing.T) {
	for _, s := range patterns() {
		d := build(t, s)
		short, ok := Shortest(d)
		if !ok || !dfa.Run(d, short) {
			t.Error(s, short)
		}
		for _, w := range words() {
			if dfa.Run(d, w) && (len(w) < len(short) || len(w) == len(short) && w < short) {
				t.Errorf("%q: %q is ahead of %q", s, w, short)
			}
		}
	}
}

func TestP13_9PrefixAndFinite(t *testing.T) {
	for _, s := range patterns() {
		d := build(t, s)
		texts, few := Finite(d)
		for _, w := range words() {
			runs := dfa.Run(d, w)
			if runs && !strings.HasPrefix(w, Prefix(d)) {
				t.Errorf("%q: %q", s, w)
			}
			if few && runs != slices.Contains(texts, w) {
				t.Errorf("%q: %q", s, w)
			}
		}
		if !slices.IsSorted(texts) {
			t.Error(s, texts)
		}
	}
}
