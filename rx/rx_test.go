package rx_test

import (
	"reflect"
	"strings"
	"testing"

	"gleaner/api"
	. "gleaner/rx"
)

func byteOf(c byte) api.Rx    { return api.Rx{Kind: api.RxClass, Class: Single(c)} }
func classOf(s string) api.Rx { return api.Rx{Kind: api.RxClass, Class: set(s)} }
func then(l ...api.Rx) api.Rx { return api.Rx{Kind: api.RxThen, Kids: l} }
func or(l ...api.Rx) api.Rx   { return api.Rx{Kind: api.RxOr, Kids: l} }
func many(x api.Rx, a, b int) api.Rx {
	return api.Rx{Kind: api.RxMany, Kids: []api.Rx{x}, Min: a, Max: b}
}

var empty = api.Rx{Kind: api.RxEmpty}

// set is the class of the bytes of s.
func set(s string) api.Class {
	var x api.Class
	for i := range len(s) {
		x = Union(x, Single(s[i]))
	}
	return x
}

// but is the class of all bytes that are not in s.
func but(s string) api.Rx {
	x := set(s)
	for i := range x {
		x[i] = ^x[i]
	}
	return api.Rx{Kind: api.RxClass, Class: x}
}

// span is the class of the bytes from low to high.
func span(low, high byte) api.Rx {
	var s []byte
	for c := int(low); c <= int(high); c++ {
		s = append(s, byte(c))
	}
	return classOf(string(s))
}

// stairs are rows and alternatives by turns, deep of them within one another; the outermost is a row, if deep is odd.
func stairs(deep int) api.Rx {
	x := byteOf('a')
	for i := range deep - 1 {
		if i%2 == 0 {
			x = or(byteOf('b'), x)
		} else {
			x = then(byteOf('b'), x)
		}
	}
	return x
}

func TestP8_1Class(t *testing.T) {
	for _, c := range []byte{0, 1, 63, 64, 127, 128, 191, 192, 255} {
		x := Single(c)
		if x[c/64] != 1<<(c%64) {
			t.Error(c, x)
		}
		for d := range 256 {
			if In(x, byte(d)) != (byte(d) == c) || !In(Union(x, Single(byte(d))), c) || !In(Union(x, Single(byte(d))), byte(d)) {
				t.Error(c, d)
			}
		}
	}
	if Union(set("ab"), set("bc")) != set("abc") {
		t.Error("Union")
	}
}

func TestP8_2Parse(t *testing.T) {
	a, b, c := byteOf('a'), byteOf('b'), byteOf('c')
	for s, want := range map[string]api.Rx{
		"": empty, "a": a, "ab": then(a, b), "a|b": or(a, b), "a|bc*": or(a, then(b, many(c, 0, -1))), "a|": or(a, empty), "|": or(empty, empty), "()": empty, "(|)": or(empty, empty),
		"a()b": then(a, b), "a(b)c": then(a, b, c), "(ab)(c)": then(a, b, c), "(ab|c)|a": or(then(a, b), c, a), "(a|b)c": then(or(a, b), c), "((a|b)|c)": or(a, b, c), "()*": many(empty, 0, -1),
		"a*": many(a, 0, -1), "a+": many(a, 1, -1), "a?": many(a, 0, 1), "a{2}": many(a, 2, 2), "a{2,}": many(a, 2, -1), "a{2,20}": many(a, 2, 20), "a{0}": many(a, 0, 0), "a{0,1}": many(a, 0, 1), "a{0,0}": many(a, 0, 0),
		"a{1}": a, "a{1,1}": a, "(ab){1}c": then(a, b, c), "(a*)*": many(many(a, 0, -1), 0, -1), "(a{1})*": many(a, 0, -1), "a{1,}": many(a, 1, -1), "a{20}": many(a, 20, 20),
		"-": byteOf('-'), "a-b": then(a, byteOf('-'), b), `\-`: byteOf('-'), `\.`: byteOf('.'), `\\`: byteOf('\\'), `\{\}`: then(byteOf('{'), byteOf('}')), " ~": then(byteOf(' '), byteOf('~')),
		".": but(""), `\d`: classOf("0123456789"), `\w`: classOf("abcdefghijklmnopqrstuvwxyzABCDEFGHIJKLMNOPQRSTUVWXYZ0123456789_"), `\x00`: byteOf(0), `\xff`: byteOf(255), `\x0a`: byteOf(10),
		"[a]": a, "[abc]": classOf("abc"), "[a-c]": classOf("abc"), "[a-a]": a, "[^a-c]": but("abc"), "[^]": but(""), `[\d\-x]`: classOf("0123456789-x"), `[\x00-\x02]`: classOf("\x00\x01\x02"), `[.*+?()|{}$]`: classOf(".*+?()|{}$"),
		`[a-c-]`: {}, `[+-\-]`: classOf("+,-"), "[ ]": byteOf(' '), "[~]": byteOf('~'), "[ -~]": span(' ', '~'), `[\w]`: classOf("abcdefghijklmnopqrstuvwxyzABCDEFGHIJKLMNOPQRSTUVWXYZ0123456789_"), `[\]\[\^]`: classOf("][^"), `[a-cb-d]`: classOf("abcd"),
		strings.Repeat("(", 12) + "a" + strings.Repeat(")", 12): a, strings.Repeat("(a)", 20): then(byteOf('a'), a, a, a, a, a, a, a, a, a, a, a, a, a, a, a, a, a, a, a),
	} {
		x, at, code := Parse(s)
		if want.Kind == 0 {
			if code != api.ErrSyntax {
				t.Errorf("%q: %v", s, x)
			}
			continue
		}
		if !reflect.DeepEqual(x, want) || at != 0 || code != api.OK {
			t.Errorf("%q: %v %d %d", s, x, at, code)
		}
	}
}

func TestP8_2Wrong(t *testing.T) {
	for s, at := range map[string]int{
		"a**": 2, "a*+": 2, "a*{99}": 2, "a+{x": 2, "*": 0, "+a": 0, "a|*": 2, "(?)": 1, "{2}": 0, "a)": 1, ")": 0, "a|)b": 2, "()) ": 2,
		"(a": 0, "a(": 1, "(a|b": 0, "(a)(b": 3, "]": 0, "}": 0, "^": 0, "a$": 1, "a\x1f": 1, "\x7f": 0, "é": 0, "(a**": 3, "([a": 1, "(a{2": 2,
		`\`: 0, `a\q`: 1, `\x`: 0, `\x0`: 0, `\x0g`: 0, `\xA0`: 0, `\D`: 0, `a\`: 1, `\a`: 0,
		"[": 0, "[a": 0, "a[^": 1, "[]": 0, "[]a]": 0, `[^\x00-\xff]`: 0, "[b-a]": 1, "[xb-a]": 2, "[a-]": 1, "[a-": 1, "[xa-]": 2, `[a-\d]`: 1, "[a-[]": 3, "[a-^]": 3, "[a--]": 3, `[a-\q]`: 3, `[a-\`: 3, "[a-\x1f]": 3,
		"[-a]": 1, `[\d-a]`: 3, "[a-c-e]": 4, "[a^]": 2, "[^^]": 2, "[a[b": 2, `[\q]`: 1, "[a\x7f]": 2, "[aé]": 2, `[a\`: 2,
		"a{": 1, "a{}": 1, "a{,2}": 1, "a{2": 1, "a{2,": 1, "a{2,1}": 1, "a{02}": 1, "a{00}": 1, "a{1,02}": 1, "a{1000}": 1, "a{ 1}": 1, "a{1,2,3}": 1, "a{x}": 1, "a{21,5}": 1, "ab{-1}": 2,
	} {
		x, got, code := Parse(s)
		if code != api.ErrSyntax || got != at || !reflect.DeepEqual(x, api.Rx{}) {
			t.Errorf("%q: %v %d %d, want place %d", s, x, got, code, at)
		}
	}
	for s, want := range map[string]struct {
		at   int
		code api.Errno
	}{
		"a{21}": {1, api.ErrLong}, "ab{2,21}": {2, api.ErrLong}, "a{21,}": {1, api.ErrLong}, "a{999}**": {1, api.ErrLong}, "a{99}*": {1, api.ErrLong},
		strings.Repeat("(", 13): {12, api.ErrDeep}, "()" + strings.Repeat("(", 13) + "a" + strings.Repeat(")", 13): {14, api.ErrDeep}, "*" + strings.Repeat("(", 13): {0, api.ErrSyntax},
		strings.Repeat("a", 61): {0, api.ErrLong}, strings.Repeat("*", 61): {0, api.ErrLong}, strings.Repeat("(", 12): {11, api.ErrSyntax},
	} {
		if _, at, code := Parse(s); at != want.at || code != want.code {
			t.Errorf("%q: %d %d", s, at, code)
		}
	}
}

// nested has deep patterns within one another.
func nested(deep int) api.Rx {
	x := byteOf('a')
	for range deep - 1 {
		x = many(x, 0, -1)
	}
	return x
}

func TestP8_3Right(t *testing.T) {
	a, b := byteOf('a'), byteOf('b')
	sixty := make([]api.Rx, 60)
	for i := range sixty {
		sixty[i] = a
	}
	for _, x := range []api.Rx{empty, a, then(a, b), then(or(a, b), a), or(a, empty), or(then(a, b), many(empty, 0, 0)), many(a, 0, 20), many(a, 20, -1), many(a, 1, 2), many(a, 0, 1), many(many(a, 0, -1), 2, 2), then(sixty...), nested(48), stairs(47), stairs(48)} {
		if !Right(x) {
			t.Error(x)
		}
	}
	for _, x := range []api.Rx{
		{}, {Kind: 6}, {Kind: -1}, {Kind: api.RxClass}, {Kind: api.RxEmpty, Class: Single('a')}, {Kind: api.RxEmpty, Kids: []api.Rx{a}}, {Kind: api.RxClass, Class: Single('a'), Kids: []api.Rx{a}}, {Kind: api.RxEmpty, Min: 1}, {Kind: api.RxClass, Class: Single('a'), Max: -1},
		then(), then(a), then(a, then(a, b)), then(a, empty), or(), or(a), or(a, or(a, b)), {Kind: api.RxOr, Kids: []api.Rx{a, b}, Max: 1}, {Kind: api.RxThen, Kids: []api.Rx{a, b}, Class: Single('a')},
		{Kind: api.RxMany}, {Kind: api.RxMany, Kids: []api.Rx{a, b}}, many(a, 1, 1), many(a, 2, 1), many(a, -1, 1), many(a, 0, -2), many(a, 21, -1), many(a, 0, 21), many(api.Rx{}, 0, 1), then(a, api.Rx{}), or(a, then(a)),
		then(append(sixty[:60:60], a)...), or(append(sixty[:60:60], a)...), nested(49), stairs(49), stairs(50), then(stairs(48), a), {Kind: api.RxMany, Kids: []api.Rx{a}, Max: -1, Class: Single('a')},
	} {
		if Right(x) {
			t.Error(x)
		}
	}
}

// texts are texts of the signs that patterns are made of, all up to some length.
func texts() []string {
	out := []string{""}
	for i := 0; len(out) < 20000; i++ {
		for _, c := range "ab(|)*[]^-{1,}" {
			out = append(out, out[i]+string(c))
		}
	}
	return out
}

func TestP8_4ReadIsRight(t *testing.T) {
	read := 0
	for _, s := range append(texts(), strings.Repeat("(a|", 12)+strings.Repeat(")*", 12), strings.Repeat("(x(a|b)*", 6)+strings.Repeat(")+", 6), strings.Repeat("a", 60), strings.Repeat("|", 59)) {
		x, at, code := Parse(s)
		if code == api.OK {
			read++
			if !Right(x) || at != 0 {
				t.Errorf("%q: %v", s, x)
			}
		} else if !reflect.DeepEqual(x, api.Rx{}) || at < 0 || at >= len(s) {
			t.Errorf("%q: %v %d %d", s, x, at, code)
		}
	}
	if read < 1000 {
		t.Error("only", read)
	}
}

func TestP8_5SignsThatSayNothing(t *testing.T) {
	for _, s := range texts()[:5000] {
		x, _, code := Parse(s)
		if code != api.OK {
			continue
		}
		for _, u := range []string{"(" + s + ")", "((" + s + "))", "()(" + s + ")", "(" + s + ")()", "(" + s + "){1}"} {
			if y, _, c := Parse(u); c != api.OK || !reflect.DeepEqual(x, y) {
				t.Errorf("%q and %q: %v %v", s, u, x, y)
			}
		}
	}
}
