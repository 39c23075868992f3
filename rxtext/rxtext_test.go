package rxtext_test

import (
	"reflect"
	"regexp"
	"slices"
	"strings"
	"testing"

	"gleaner/api"
	"gleaner/rx"
	. "gleaner/rxtext"
)

// read is the pattern of a text that is right.
func read(t *testing.T, s string) api.Rx {
	x, at, code := rx.Parse(s)
	if code != api.OK {
		t.Fatalf("%q: %d %d", s, at, code)
	}
	return x
}

func a() api.Rx { return api.Rx{Kind: api.RxClass, Class: rx.Single('a')} }

func many(x api.Rx, least, most int) api.Rx {
	return api.Rx{Kind: api.RxMany, Kids: []api.Rx{x}, Min: least, Max: most}
}

func row(n int) api.Rx {
	return api.Rx{Kind: api.RxThen, Kids: slices.Repeat([]api.Rx{a()}, n)}
}

// patterns are texts as Print writes them.
func patterns() []string {
	return []string{"", "a", "ab", "a|b", "a|", "|", "|a|bc", "a(b|c)", "(a|b)*", "(ab)+", "(a*)*", "()*", "()?", "a{0}", "a{0,3}", "a{2}", "a{2,}", "a{2,5}", "a?b+c*", "(a|b){3}c", "((a|b)c)*", ".*", `\.`, "-", `[\-a]`, "[a-c]", `[\x00-\x1f]`, "[ac]", `[a-bx-z]`,
		`\x7f`, `\xff`, "[\\x00-`b-\\xff]", "(a{2,3}){0,2}b", "(|a)b", "((ab|c)*d){2}", `[\]-\^]`, "a+b", "(aa|a)*", "(a?){3}b", `\\\*`}
}

// words are all texts of up to three of some bytes.
func words() []string {
	out := []string{""}
	for i := 0; i < len(out) && len(out[i]) < 4; i++ {
		for _, c := range []string{"a", "b", "c"} {
			out = append(out, out[i]+c)
		}
	}
	return append(out, "-", "x", ".", "\x00", "\xff", "aaaaab", "ababcd", "d", "dd", "cdabd", `\*`, "]", "^^", strings.Repeat("a", 63))
}

func TestP9_1Print(t *testing.T) {
	for _, s := range patterns() {
		if got, code := Print(read(t, s)); got != s || code != api.OK {
			t.Errorf("%q: %q %d", s, got, code)
		}
	}
	for s, want := range map[string]string{`\d`: "[0-9]", `\w`: "[0-9A-Z_a-z]", "[^]": ".", "[b]": "b", `[\-]`: "-", "[ab]": "[a-b]", "[^a]": `[\x00-` + "`" + `b-\xff]`, "a{1,}": "a+", "a{0,}": "a*", "a{0,1}": "a?", "(a)(b)": "ab", `[.a]`: `[\.a]`, `\x41`: "A", " ": " ", "~": "~"} {
		if got, code := Print(read(t, s)); got != want || code != api.OK {
			t.Errorf("%q: %q %d", s, got, code)
		}
	}
	deep := a()
	for range 13 {
		deep = many(deep, 0, -1)
	}
	for _, c := range []struct {
		x    api.Rx
		code api.Errno
	}{
		{api.Rx{}, api.ErrArg}, {many(a(), 1, 1), api.ErrArg}, {row(61), api.ErrArg}, {row(60), api.OK}, {api.Rx{Kind: api.RxOr, Kids: []api.Rx{row(58), a()}}, api.OK}, {api.Rx{Kind: api.RxOr, Kids: []api.Rx{row(59), a()}}, api.ErrLong},
		{api.Rx{Kind: api.RxOr, Kids: slices.Repeat([]api.Rx{row(60)}, 4)}, api.ErrLong}, {deep, api.OK}, {many(deep, 0, -1), api.ErrDeep}, {api.Rx{Kind: api.RxOr, Kids: slices.Repeat([]api.Rx{{Kind: api.RxEmpty}}, 60)}, api.OK},
	} {
		if s, code := Print(c.x); code != c.code || code != api.OK && s != "" {
			t.Errorf("%v: %q %d", c.x, s, code)
		}
	}
}

func TestP9_2Size(t *testing.T) {
	for s, want := range map[string]int{"": 1, "a": 1, "ab": 3, "a|b*": 4, "(a{3}){4}": 3} {
		if n := Size(read(t, s)); n != want {
			t.Error(s, n)
		}
	}
	x := a()
	for range 5 {
		x = api.Rx{Kids: slices.Repeat([]api.Rx{x}, 10)}
	}
	if n := Size(x); n != 100001 {
		t.Error(n)
	}
	x = api.Rx{Kids: x.Kids[:9]}
	if n := Size(x); n != 1+9*11111 {
		t.Error(n)
	}
	if n := Size(api.Rx{Kids: slices.Repeat([]api.Rx{{}}, 99999)}); n != 100000 {
		t.Error(n)
	}
	if n := Size(api.Rx{Kids: slices.Repeat([]api.Rx{{}}, 100000)}); n != 100001 {
		t.Error(n)
	}
}

func TestP9_3Nullable(t *testing.T) {
	for s, want := range map[string]bool{"": true, "a": false, "a*": true, "a+": false, "a?b?": true, "a?b": false, "a|": true, "a|b": false, "a{0}": true, "(a*){3}": true, "(a|){2,}": true, "a{2}": false, "()+": true} {
		if Nullable(read(t, s)) != want {
			t.Error(s)
		}
	}
	for _, x := range []api.Rx{{}, {Kind: 7}, {Kind: api.RxMany, Min: 2}, {Kind: api.RxOr}} {
		if Nullable(x) {
			t.Error(x)
		}
	}
}

func TestP9_4Match(t *testing.T) {
	for _, s := range patterns() {
		x := read(t, s)
		if strings.Contains(s, `\x`) {
			continue
		}
		goes := regexp.MustCompile(`^(?s:` + s + `)$`)
		for _, w := range words() {
			if strings.IndexByte(w, 255) < 0 && Match(x, w) != goes.MatchString(w) {
				t.Errorf("%q of %q: %v", s, w, Match(x, w))
			}
		}
	}
	for _, w := range words() {
		if Match(read(t, `[\x00-\x60b-\xff]`), w) != (len(w) == 1 && w != "a") {
			t.Errorf("%q", w)
		}
	}
	all := read(t, ".*")
	if !Match(all, strings.Repeat("x", 63)) || Match(all, strings.Repeat("x", 64)) || Match(api.Rx{}, "") || Match(many(a(), 1, 1), "a") {
		t.Error("ends")
	}
	big := api.Rx{Kind: api.RxOr, Kids: slices.Repeat([]api.Rx{row(59)}, 4)}
	if Match(big, strings.Repeat("a", 59)) {
		t.Error("Size above 240")
	}
	big.Kids[0] = row(58)
	if Size(big) != 240 || !Match(big, strings.Repeat("a", 59)) {
		t.Error("Size 240")
	}
	deep := a()
	for range 46 {
		deep = many(deep, 0, 20)
	}
	if !Match(deep, strings.Repeat("a", 60)) || Match(deep, "ab") {
		t.Error("deep")
	}
}

func TestP9_5Back(t *testing.T) {
	for s, want := range map[string]string{"": "", "abc": "cba", "a(bc|d)*": "(cb|d)*a", "(ab){2}|cd": "(ba){2}|dc", "a|b": "a|b"} {
		if x := Back(read(t, s)); !reflect.DeepEqual(x, read(t, want)) {
			t.Error(s, x)
		}
	}
	x := read(t, "ab")
	if Back(x); !reflect.DeepEqual(x, read(t, "ab")) {
		t.Error("changed")
	}
}

func TestP9_6ReadAsItWas(t *testing.T) {
	for _, s := range patterns() {
		x := read(t, s)
		u, code := Print(x)
		if y, _, c := rx.Parse(u); code != api.OK || c != api.OK || !reflect.DeepEqual(x, y) {
			t.Errorf("%q: %q %v", s, u, y)
		}
	}
}

func TestP9_7NullableMatchesEmpty(t *testing.T) {
	for _, s := range patterns() {
		if x := read(t, s); Nullable(x) != Match(x, "") {
			t.Error(s)
		}
	}
}

func TestP9_8BackReadsBackward(t *testing.T) {
	for _, s := range patterns() {
		x := read(t, s)
		for _, w := range words() {
			turned := []byte(w)
			slices.Reverse(turned)
			if Match(x, w) != Match(Back(x), string(turned)) {
				t.Errorf("%q of %q", s, w)
			}
		}
		if !reflect.DeepEqual(Back(Back(x)), x) {
			t.Error(s)
		}
	}
}
