package label_test

import (
	"fmt"
	"slices"
	"strings"
	"testing"

	"gleaner/api"
	. "gleaner/label"
)

// pairs makes labels of names and values by turns.
func pairs(l ...string) []api.Label {
	var out []api.Label
	for i := 0; i+1 < len(l); i += 2 {
		out = append(out, api.Label{Name: l[i], Value: l[i+1]})
	}
	return out
}

func TestP2_1NamesAndValues(t *testing.T) {
	for s, want := range map[string]bool{
		"a": true, "_": true, "z9_": true, "a234567890123456": true, "": false, "a2345678901234567": false,
		"9a": false, "A": false, "a-": false, "a b": false, "é": false, "a\xff": false, "a\x00": false, "`": false, "{": false,
	} {
		if IsName(s) != want {
			t.Errorf("IsName(%q) is not %v", s, want)
		}
	}
	for s, want := range map[string]bool{
		"": true, " ~": true, strings.Repeat("x", 32): true, strings.Repeat("x", 33): false, "\x1f": false, "\x7f": false, "é": false, "a\n": false,
	} {
		if IsValue(s) != want {
			t.Errorf("IsValue(%q) is not %v", s, want)
		}
	}
}

func TestP2_2Canon(t *testing.T) {
	seven := pairs("a", "1", "b", "1", "c", "1", "d", "1", "e", "1", "f", "1", "g", "1")
	for _, c := range []struct {
		l, want []api.Label
		code    api.Errno
	}{
		{pairs("b", "2", "a", "1", "c", ""), pairs("a", "1", "b", "2"), api.OK},
		{seven[:6], seven[:6], api.OK},
		{append(pairs("x", "", "y", ""), seven[:6]...), seven[:6], api.OK},
		{nil, nil, api.ErrLabel}, {pairs("a", ""), nil, api.ErrLabel},
		{pairs("A", "1"), nil, api.ErrLabel}, {pairs("a", "\n"), nil, api.ErrLabel},
		{pairs("a", "1", "a", "2"), nil, api.ErrLabel}, {pairs("a", "", "a", "2"), nil, api.ErrLabel}, {pairs("a", "2", "a", ""), nil, api.ErrLabel},
		{seven, nil, api.ErrLong}, {append(slices.Clone(seven), pairs("A", "")...), nil, api.ErrLong},
		{append(pairs("A", ""), seven...), nil, api.ErrLabel}, {append(slices.Clone(seven[:6]), pairs("A", "")...), nil, api.ErrLabel},
		{append(slices.Clone(seven[:6]), pairs("g", "\n")...), nil, api.ErrLabel},
	} {
		in := slices.Clone(c.l)
		got, code := Canon(c.l)
		if !slices.Equal(got, c.want) || code != c.code {
			t.Errorf("Canon(%v): %v %d", c.l, got, code)
		}
		if !slices.Equal(in, c.l) {
			t.Errorf("Canon changed %v", in)
		}
	}
}

func TestP2_3Text(t *testing.T) {
	for _, c := range []struct {
		l    []api.Label
		want string
		code api.Errno
	}{
		{pairs("a", "1"), `{a="1"}`, api.OK}, {pairs("a", "1", "b", "2"), `{a="1",b="2"}`, api.OK},
		{pairs("a", `x"y\z,}`), `{a="x\"y\\z,}"}`, api.OK},
		{pairs("b", "2", "a", "1"), "", api.ErrForm}, {pairs("a", "1", "b", ""), "", api.ErrForm},
		{nil, "", api.ErrLabel}, {pairs("", "1"), "", api.ErrLabel},
		{pairs("a", "1", "b", "1", "c", "1", "d", "1", "e", "1", "f", "1", "g", "1"), "", api.ErrLong},
	} {
		if s, code := Text(c.l); s != c.want || code != c.code {
			t.Errorf("Text(%v): %q %d", c.l, s, code)
		}
	}
}

func TestP2_4Parse(t *testing.T) {
	for _, c := range []struct {
		s    string
		want []api.Label
		code api.Errno
	}{
		{`{a="1"}`, pairs("a", "1"), api.OK}, {`{a="x\"y\\z,}",b="{"}`, pairs("a", `x"y\z,}`, "b", "{"), api.OK},
		{strings.Repeat("x", 601), nil, api.ErrLong}, {strings.Repeat("x", 600), nil, api.ErrForm},
	} {
		if l, code := Parse(c.s); !slices.Equal(l, c.want) || code != c.code {
			t.Errorf("Parse(%q): %v %d", c.s, l, code)
		}
	}
	for _, s := range []string{"", "{", "}", "{}", `{a="1"`, `a="1"}`, `{a="1",}`, `{,a="1"}`, `{a="1"b="2"}`, `{b="2",a="1"}`, `{a="1",a="1"}`, `{a=""}`, `{A="1"}`, `{a="\1"}`,
		`{a="1\"}`, `{a="1\`, `{a="1"} `, `{ a="1"}`, `{a="1", b="2"}`, `{a='1'}`, `{a="é"}`, `{a="1",b="1",c="1",d="1",e="1",f="1",g="1"}`, `{a="1"}{a="1"}`, `{a="1",,b="1"}`} {
		if l, code := Parse(s); l != nil || code != api.ErrForm {
			t.Errorf("Parse(%q): %v %d", s, l, code)
		}
	}
}

func TestP2_5Value(t *testing.T) {
	l := pairs("b", "2", "a", "1", "b", "3")
	for name, want := range map[string]string{"a": "1", "b": "2", "c": "", "": ""} {
		if v := Value(l, name); v != want {
			t.Errorf("Value of %q: %q", name, v)
		}
	}
}

func TestP2_6Less(t *testing.T) {
	rising := [][]api.Label{nil, pairs("a", ""), pairs("a", "1"), pairs("a", "1", "b", "0"), pairs("a", "2"), pairs("ab", "0"), pairs("b", "0")}
	for i, a := range rising {
		for j, b := range rising {
			if Less(a, b) != (i < j) {
				t.Errorf("Less(%v, %v)", a, b)
			}
		}
	}
}

// forms are some labels in their one form.
func forms() [][]api.Label {
	var out [][]api.Label
	for _, v := range []string{"1", `"`, `\`, `\"`, "a=\"1\"", ",", "}"} {
		out = append(out, pairs("a", v), pairs("b", v), pairs("a", v, "b", v, "c9", `,x="`))
	}
	return out
}

func TestP2_7OneForm(t *testing.T) {
	for _, l := range forms() {
		s, code := Text(l)
		if back, c := Parse(s); code != api.OK || c != api.OK || !slices.Equal(back, l) {
			t.Errorf("%v: %q %d %v %d", l, s, code, back, c)
		}
		turned := slices.Clone(l)
		slices.Reverse(turned)
		a, code := Canon(append(turned, pairs("zz", "")...))
		if b, c := Canon(a); code != api.OK || c != api.OK || !slices.Equal(a, l) || !slices.Equal(b, l) {
			t.Errorf("%v: %v %v", l, a, b)
		}
	}
}

func TestP2_8Order(t *testing.T) {
	l := forms()
	slices.SortFunc(l, func(a, b []api.Label) int {
		if Less(a, b) {
			return -1
		}
		if Less(b, a) {
			return 1
		}
		return 0
	})
	for i := range l {
		for j := range l {
			if Less(l[i], l[j]) != (i < j) {
				t.Errorf("%v and %v", l[i], l[j])
			}
		}
	}
}

func TestP2_9Longest(t *testing.T) {
	var l []api.Label
	for i := range api.MaxLabels {
		l = append(l, api.Label{Name: fmt.Sprintf("a%015d", i), Value: strings.Repeat(`"`, api.MaxValue)})
	}
	s, code := Text(l)
	if code != api.OK || len(s) > api.MaxText {
		t.Errorf("%d bytes, %d", len(s), code)
	}
	if back, code := Parse(s); code != api.OK || !slices.Equal(back, l) {
		t.Errorf("%v %d", back, code)
	}
}
