package pages_test

import (
	"fmt"
	"math"
	"reflect"
	"slices"
	"strings"
	"testing"

	"gleaner/api"
	. "gleaner/pages"
)

var abc = []string{"a", "b", "c"}

// lists are rising lists of some lengths.
func lists() [][]string {
	var out [][]string
	for n := range 13 {
		var l []string
		for i := range n {
			l = append(l, fmt.Sprintf("%03d", i*i))
		}
		out = append(out, l)
	}
	return out
}

func TestP34_1Cut(t *testing.T) {
	for _, x := range []struct {
		after string
		most  int
		want  api.Page
	}{
		{"", 2, api.Page{List: []string{"a", "b"}, After: "b", More: true}}, {"b", 2, api.Page{List: []string{"c"}, After: "c"}}, {"", 3, api.Page{List: abc, After: "c"}}, {"", math.MaxInt, api.Page{List: abc, After: "c"}}, {"aa", 1, api.Page{List: []string{"b"}, After: "b", More: true}},
		{"c", 5, api.Page{After: "c"}}, {"z", 5, api.Page{After: "z"}}, {"", 0, api.Page{More: true}}, {"b", -1, api.Page{After: "b", More: true}}, {"c", 0, api.Page{After: "c"}}, {"0", math.MinInt, api.Page{After: "0", More: true}},
	} {
		if p := Cut(abc, x.after, x.most); !slices.Equal(p.List, x.want.List) || p.After != x.want.After || p.More != x.want.More {
			t.Error(x, p)
		}
	}
	p := Cut(abc, "", 2)
	p.List[0] = "x"
	if _ = append(p.List, "y"); !slices.Equal(abc, []string{"a", "b", "c"}) {
		t.Error("memory is shared")
	}
}

func TestP34_2All(t *testing.T) {
	if l := All(abc, 2); !reflect.DeepEqual(l, []api.Page{{List: []string{"a", "b"}, After: "b", More: true}, {List: []string{"c"}, After: "c"}}) {
		t.Error(l)
	}
	for _, l := range [][]api.Page{All(abc, 0), All(abc, -1), All(nil, 3), All(abc, math.MinInt)} {
		if len(l) != 0 {
			t.Error(l)
		}
	}
}

func TestEndsOnWhatDoesNotRise(t *testing.T) {
	for _, l := range [][]string{{"09", "16", "100", "121"}, {"b", "a"}, {"a", "a", "a"}, {"", ""}, {"c", "b", "a", "d", "0", "e", ""}} {
		for most := 1; most < 5; most++ {
			if n := len(All(l, most)); n > len(l) {
				t.Error(l, most, n)
			}
			Cut(l, "b", most)
			Skip(l, "b")
		}
	}
}

func TestP34_3Skip(t *testing.T) {
	for after, want := range map[string]int{"": 0, "a": 1, "aa": 1, "b": 2, "c": 3, "d": 3, "A": 0} {
		if l := Skip(abc, after); !slices.Equal(l, abc[want:]) {
			t.Error(after, l)
		}
	}
	Skip(abc, "")[0] = "x"
	if abc[0] != "a" {
		t.Error("memory is shared")
	}
}

func TestP34_4TokenAndRead(t *testing.T) {
	for s, want := range map[string]string{"b": "p62", "": "p", "\x00\xffz": "p00ff7a"} {
		if got := Token(api.Page{After: s, More: true}); got != want {
			t.Errorf("%q: %s", s, got)
		}
		if got, code := Read(want); got != s || code != api.OK {
			t.Errorf("%q: %q %d", want, got, code)
		}
		if Token(api.Page{After: s}) != "" {
			t.Error(s)
		}
	}
	for s, want := range map[string]api.Errno{
		"": api.ErrForm, "62": api.ErrForm, "q62": api.ErrForm, "p6": api.ErrForm, "p626": api.ErrForm, "p6g": api.ErrForm, "p6A": api.ErrForm, "P62": api.ErrForm, "p 62": api.ErrForm, "p62\n": api.ErrForm, "é": api.ErrForm,
		"p" + strings.Repeat("61", 600): api.OK, "p" + strings.Repeat("61", 600) + "6": api.ErrLong, strings.Repeat("x", 1202): api.ErrLong,
	} {
		if got, code := Read(s); code != want || code != api.OK && got != "" {
			t.Errorf("%q: %d", s, code)
		}
	}
}

func TestP34_5PagesAreTheList(t *testing.T) {
	for _, l := range lists() {
		for most := 1; most < 15; most++ {
			var got []string
			for i, p := range All(l, most) {
				got = append(got, p.List...)
				if p.More != (len(got) < len(l)) || len(p.List) != most && p.More || p.After != got[len(got)-1] || i*most+len(p.List) != len(got) {
					t.Error(l, most, p)
				}
			}
			if !slices.Equal(got, l) {
				t.Error(l, most, got)
			}
		}
	}
}

func TestP34_6WhatComesOrGoes(t *testing.T) {
	l := lists()[12]
	for most := 1; most < 6; most++ {
		first := Cut(l, "", most)
		// Ahead of the page's end one goes, and one comes; behind it one goes, and one comes.
		changed := append([]string{"!"}, l[1:]...)
		changed = slices.DeleteFunc(changed, func(s string) bool { return s == l[9] })
		changed = append(changed, "zz")
		got := slices.Clone(first.List)
		for p := Cut(changed, first.After, most); len(p.List) > 0; p = Cut(changed, p.After, most) {
			got = append(got, p.List...)
		}
		for _, s := range l {
			if stays := slices.Contains(changed, s) || slices.Contains(first.List, s); slices.Contains(got, s) != stays {
				t.Error(most, s, got)
			}
		}
	}
}

func TestP34_7GoesOn(t *testing.T) {
	for _, l := range lists() {
		var got []string
		for after := ""; ; {
			p := Cut(l, after, 3)
			got = append(got, p.List...)
			next, code := Read(Token(p))
			if !p.More {
				if code != api.ErrForm {
					t.Error(code)
				}
				break
			}
			if code != api.OK || next != p.After {
				t.Fatal(l, next, code)
			}
			after = next
		}
		if !slices.Equal(got, l) {
			t.Error(l, got)
		}
	}
}
