package deriv_test

import (
	"reflect"
	"slices"
	"strings"
	"testing"

	"gleaner/api"
	. "gleaner/deriv"
	"gleaner/rx"
	"gleaner/rxtext"
)

func read(t *testing.T, s string) api.Rx {
	x, at, code := rx.Parse(s)
	if code != api.OK {
		t.Fatalf("%q: %d %d", s, at, code)
	}
	return x
}

func row60(t *testing.T) api.Rx {
	return api.Rx{Kind: api.RxThen, Kids: slices.Repeat([]api.Rx{read(t, "a")}, 60)}
}

// great has just so many patterns, not less than 63.
func great(t *testing.T, size int) api.Rx {
	x := api.Rx{Kind: api.RxOr}
	for left := size - 1; left > 0; {
		kid := row60(t)
		kid.Kids = kid.Kids[:min(60, max(2, left-1))]
		if left == 1 {
			kid = read(t, "b")
		}
		x.Kids = append(x.Kids, kid)
		left -= rxtext.Size(kid)
	}
	return x
}

func patterns() []string {
	return []string{"", "a", "ab", "a|b", "a|", "(a|ab)c", "(a|b)*a", "a{2,3}", "a{2,}", "a{0}", "(ab|c)+d?", "((a|b)c*){2}", "(a*)*b", "[a-b]{0,4}c", ".*b.", "(a?b?){3}", "a{20}", "(|a)(b|)", "[^a]*", "(a*b*)*c", "((a|b){2}c?)*", "(aa|a){2,4}", "()*a", "(a{0}|b)a"}
}

func words() []string {
	out := []string{""}
	for i := 0; len(out[i]) < 4; i++ {
		out = append(out, out[i]+"a", out[i]+"b", out[i]+"c", out[i]+"d")
	}
	return append(out, strings.Repeat("a", 20), strings.Repeat("a", 19), "abababab", "\xff", "b\x00", "aabcaab")
}

func TestP32_1Step(t *testing.T) {
	for _, x := range []struct{ s, c, want string }{
		{"ab", "a", "b"}, {"a{2,3}", "a", "a{1,2}"}, {"(a|ab)c", "a", "(|b)c"}, {"a", "a", ""}, {"a*", "a", "a*"}, {"a+", "a", "a*"}, {"a?", "a", ""}, {"a{2}", "a", "a"}, {"a{3}", "a", "a{2}"}, {"a{0,2}", "a", "a?"}, {"a{2,}", "a", "a+"}, {"a{3,}", "a", "a{2,}"},
		{"(ab){2}", "a", "bab"}, {"a?b", "b", ""}, {"a?b", "a", "b"}, {"a?ab", "a", "ab|b"}, {"a*a", "a", "a*a|"}, {"a|a", "a", ""}, {"ab|ac|ab", "a", "b|c"}, {"(a|b)c|ac", "a", "c"}, {"(ab|ac)d|ae", "a", "(b|c)d|e"}, {"(a|a(b|c)|d)", "a", "|b|c"}, {"(a*)*", "a", "a*(a*)*"}, {"[^a]b", "\xff", "b"}, {"a?b?c?", "b", "c?"},
	} {
		y, ok, code := Step(read(t, x.s), x.c[0])
		if !ok || code != api.OK || !reflect.DeepEqual(y, read(t, x.want)) {
			s, _ := rxtext.Print(y)
			t.Error(x, s, ok, code)
		}
	}
	for _, x := range []struct{ s, c string }{{"", "a"}, {"a", "b"}, {"a{0}", "a"}, {"ab", "b"}, {"a|b", "c"}, {"(a{0})*", "a"}} {
		if y, ok, code := Step(read(t, x.s), x.c[0]); ok || code != api.OK || !reflect.DeepEqual(y, api.Rx{}) {
			t.Error(x, y, code)
		}
	}
	for i, x := range []api.Rx{{}, {Kind: api.RxThen}, great(t, 401)} {
		if y, ok, code := Step(x, 'b'); ok || code != api.ErrArg || !reflect.DeepEqual(y, api.Rx{}) {
			t.Error(i, code)
		}
	}
	if _, ok, code := Step(great(t, 400), 'a'); !ok || code != api.OK {
		t.Error(code)
	}
	// Many parts that may be left away: what follows has all that is behind each of them.
	many := api.Rx{Kind: api.RxThen, Kids: slices.Repeat([]api.Rx{read(t, "a?")}, 40)}
	if y, ok, code := Step(many, 'a'); ok || code != api.ErrComplex || !reflect.DeepEqual(y, api.Rx{}) {
		t.Error(ok, code)
	}
	wide := api.Rx{Kind: api.RxMany, Kids: []api.Rx{row60(t)}, Max: -1}
	if _, ok, code := Step(wide, 'a'); !ok || code != api.OK {
		t.Error(code)
	}
	wide.Min, wide.Max = 2, 2
	if _, ok, code := Step(wide, 'a'); ok || code != api.ErrComplex {
		t.Error(code)
	}
}

func TestNewMemory(t *testing.T) {
	x := read(t, "a?a?(bc|d)")
	y, _, _ := Step(x, 'a')
	want, _, _ := Step(read(t, "a?a?(bc|d)"), 'a')
	y.Kids[0].Kids[1].Kids[0].Kids[0].Class = api.Class{}
	if reflect.DeepEqual(y, want) || !reflect.DeepEqual(x, read(t, "a?a?(bc|d)")) || !reflect.DeepEqual(y.Kids[1], want.Kids[1]) {
		t.Error("memory is shared")
	}
}

func TestP32_2Match(t *testing.T) {
	for _, x := range []api.Rx{{}, great(t, 401)} {
		for _, s := range []string{"", "b"} {
			if ok, code := Match(x, s); ok || code != api.ErrArg {
				t.Error(code)
			}
		}
	}
	many := api.Rx{Kind: api.RxThen, Kids: slices.Repeat([]api.Rx{read(t, "a?")}, 40)}
	if ok, code := Match(many, "a"); ok || code != api.ErrComplex {
		t.Error(ok, code)
	}
	if ok, code := Match(many, ""); !ok || code != api.OK {
		t.Error(ok, code)
	}
	if ok, code := Match(read(t, "a*"), strings.Repeat("a", 5000)); !ok || code != api.OK {
		t.Error(ok, code)
	}
}

func TestP32_3First(t *testing.T) {
	for s, want := range map[string]string{"": "", "a": "a", "a?b": "ab", "a?b*c|d": "abcd", "(a{0}|b)c": "bc", "a{0}": "", "(ab)*c": "ac", "()*x": "x"} {
		var x api.Class
		for i := range len(want) {
			x = rx.Union(x, rx.Single(want[i]))
		}
		if got := First(read(t, s)); got != x {
			t.Errorf("%q: %v", s, got)
		}
	}
	if First(api.Rx{}) != (api.Class{}) || First(api.Rx{Kind: api.RxClass, Class: rx.Single('a'), Min: 1}) != (api.Class{}) {
		t.Error("what is not right")
	}
}

func TestP32_4Leads(t *testing.T) {
	for _, x := range []struct {
		s    string
		n    int
		want string
	}{{"abc|abd", 9, "ab"}, {"abc|abd", 1, "a"}, {"abc", 0, ""}, {"abc", -1, ""}, {"abc", 9, "abc"}, {"abc?", 9, "ab"}, {"a*", 9, ""}, {"a+", 9, "a"}, {"(ab){3}", 9, "ababab"}, {"a|b", 9, ""}, {"(a{20}){20}", 1000, strings.Repeat("a", 400)}, {"((a{20}){20}){3}", 1000, strings.Repeat("a", 600)}, {`\xff.`, 9, "\xff"}} {
		if got, code := Leads(read(t, x.s), x.n); got != x.want || code != api.OK {
			t.Error(x, len(got), code)
		}
	}
	for _, n := range []int{0, 5} {
		if s, code := Leads(api.Rx{}, n); s != "" || code != api.ErrArg {
			t.Error(s, code)
		}
	}
	wide := api.Rx{Kind: api.RxMany, Kids: []api.Rx{row60(t)}, Min: 2, Max: 2}
	if s, code := Leads(wide, 5); s != "" || code != api.ErrComplex {
		t.Error(s, code)
	}
}

func TestP32_5And6ByteByByte(t *testing.T) {
	for _, s := range patterns() {
		x := read(t, s)
		for _, w := range words() {
			want := rxtext.Match(x, w)
			if ok, code := Match(x, w); ok != want || code != api.OK {
				t.Errorf("%q of %q: %v %d", s, w, ok, code)
			}
			if w == "" {
				continue
			}
			y, ok, code := Step(x, w[0])
			if code != api.OK || ok && (!rx.Right(y) || rxtext.Match(y, w[1:]) != want) || !ok && want {
				t.Errorf("%q by %q", s, w)
			}
		}
	}
}

func TestP32_7BeginsSo(t *testing.T) {
	for _, s := range patterns() {
		x := read(t, s)
		lead, code := Leads(x, 100)
		if code != api.OK {
			t.Error(s, code)
		}
		for _, w := range words() {
			if rxtext.Match(x, w) && (!strings.HasPrefix(w, lead) || w != "" && !rx.In(First(x), w[0])) {
				t.Errorf("%q of %q", s, w)
			}
		}
		for c := range 256 {
			if _, ok, _ := Step(x, byte(c)); ok != rx.In(First(x), byte(c)) {
				t.Error(s, c)
			}
		}
	}
}
