package selector_test

import (
	"fmt"
	"reflect"
	"slices"
	"strings"
	"testing"

	"gleaner/api"
	"gleaner/label"
	"gleaner/matcher"
	"gleaner/plan"
	. "gleaner/selector"
)

func m(kind int, name, value string) api.Matcher {
	return api.Matcher{Kind: kind, Name: name, Value: value}
}

func request(kind int, name string, l ...api.Matcher) api.Request {
	return api.Request{Kind: kind, Name: name, Matchers: l}
}

// right are requests that may be, with their texts.
func right() map[string]api.Request {
	return map[string]api.Request{
		`series{}`: request(1, ""), `names{a="1"}`: request(2, "", m(1, "a", "1")), `values(job){a="1",b!~"x|y"}`: request(3, "job", m(1, "a", "1"), m(4, "b", "x|y")), `counts{a!="",b=~"\"\\ ~"}`: request(4, "", m(2, "a", ""), m(3, "b", `"\ ~`)),
		`series{a="1",a="1",a="1",a="1",a="1"}`: request(1, "", slices.Repeat([]api.Matcher{m(1, "a", "1")}, 5)...), `series{_9=~"` + strings.Repeat("x", 60) + `"}`: request(1, "", m(3, "_9", strings.Repeat("x", 60))), `series{a="}{,=!~()"}`: request(1, "", m(1, "a", "}{,=!~()")), `series{a=~"("}`: request(1, "", m(3, "a", "(")),
	}
}

func TestP31_1Check(t *testing.T) {
	for _, q := range right() {
		if code := Check(q); code != api.OK {
			t.Error(q, code)
		}
	}
	for _, x := range []struct {
		q    api.Request
		code api.Errno
	}{
		{api.Request{}, api.ErrArg}, {request(5, "", make([]api.Matcher, 6)...), api.ErrArg}, {request(-1, ""), api.ErrArg}, {request(3, ""), api.ErrArg}, {request(3, "A", make([]api.Matcher, 6)...), api.ErrArg}, {request(1, "a"), api.ErrArg}, {request(4, "a"), api.ErrArg},
		{request(1, "", make([]api.Matcher, 6)...), api.ErrLong}, {request(1, "", m(0, "A", "")), api.ErrArg}, {request(1, "", m(5, "a", "")), api.ErrArg}, {request(1, "", m(1, "A", "\n")), api.ErrArg}, {request(1, "", m(1, "a", "\x7f")), api.ErrArg}, {request(1, "", m(1, "a", "\x1f")), api.ErrArg}, {request(1, "", m(3, "", strings.Repeat("x", 61))), api.ErrArg},
		{request(1, "", m(1, "A", "")), api.ErrLabel}, {request(1, "", m(1, "A", ""), m(9, "a", "")), api.ErrLabel}, {request(1, "", m(1, "a", ""), m(1, "", "")), api.ErrLabel},
	} {
		if code := Check(x.q); code != x.code {
			t.Error(x, code)
		}
		if s, code := Print(x.q); s != "" || code != x.code {
			t.Error(x, s, code)
		}
		if l, code := Answer(x.q, []string{`{a="1"}`}); l != nil || code != x.code {
			t.Error(x, l, code)
		}
	}
}

func TestP31_2Print(t *testing.T) {
	for want, q := range right() {
		if s, code := Print(q); s != want || code != api.OK {
			t.Error(q, s, code)
		}
	}
}

func TestP31_3Parse(t *testing.T) {
	for s, want := range right() {
		if q, at, code := Parse(s); at != 0 || code != api.OK || !reflect.DeepEqual(q, want) {
			t.Error(s, q, at, code)
		}
	}
	for s, at := range map[string]int{
		"": 0, "   ": 3, "serie{}": 0, "Series{}": 0, " x": 1, "series": 6, "series  ": 8, "series()": 6, "seriesx{}": 6, "series{": 7, "series{ ": 8, "series{a": 8, "series{a}": 8, "series{a=1}": 9, "series{a=": 9, "series{a!": 8, "series{a! =\"1\"}": 8, "series{a~\"1\"}": 8, "series{a==\"1\"}": 9, "series{a= ~\"1\"}": 10,
		`series{a="1}`: 9, `series{a= "1}`: 10, `series{a="1\x"}`: 9, `series{a="1\`: 9, `series{a="1"`: 12, `series{a="1" `: 13, `series{a="1";}`: 12, `series{a="1",}`: 13, `series{a="1",,`: 13, `series{,}`: 7, `series{A="1"}`: 7, `series{="1"}`: 7, `series{}x`: 8, `series{} }`: 9, `series{a="1" b="1"}`: 13,
		"values{}": 6, "values job": 7, "values(": 7, "values()": 7, "values( )": 8, "values(job": 10, "values(job x)": 11, "values(job)": 11, "values(A){}": 7, "values(job}": 10, "\tseries{}": 0, "series\n{}": 6, `series {a = "1"  , b`: 20,
	} {
		if q, got, code := Parse(s); code != api.ErrSyntax || got != at || !reflect.DeepEqual(q, api.Request{}) {
			t.Errorf("%q: %d %d, want %d", s, got, code, at)
		}
	}
	for s, want := range map[string]api.Errno{
		`values(9){}`: api.ErrArg, `series{9="1"}`: api.ErrLabel, "series{a=\"\n\"}": api.ErrArg, `series{a12345678901234567="1"}`: api.ErrLabel, `series{a="1",a="1",a="1",a="1",a="1",a="1"}`: api.ErrLong, `series{a="` + strings.Repeat("x", 61) + `"}`: api.ErrArg, strings.Repeat(" ", 601): api.ErrLong, strings.Repeat("x", 601): api.ErrLong,
	} {
		if q, at, code := Parse(s); code != want || at != 0 || !reflect.DeepEqual(q, api.Request{}) {
			t.Errorf("%q: %d %d", s, at, code)
		}
	}
	if _, at, code := Parse("series{}" + strings.Repeat(" ", 592)); at != 0 || code != api.OK {
		t.Error(at, code)
	}
}

func TestP31_4Answer(t *testing.T) {
	l := []string{`{b="2"}`, `{a="1",b="2"}`, "x", `{a="2"}`, `{a="1",b="3"}`, `{b="2"}`}
	for _, x := range []struct {
		q    api.Request
		want []string
		code api.Errno
	}{
		{request(1, ""), []string{`{a="1",b="2"}`, `{a="1",b="3"}`, `{a="2"}`, `{b="2"}`}, api.OK}, {request(1, "", m(1, "a", "1")), []string{`{a="1",b="2"}`, `{a="1",b="3"}`}, api.OK}, {request(2, "", m(1, "a", "2")), []string{"a"}, api.OK}, {request(3, "b"), []string{"2", "3"}, api.OK}, {request(3, "c"), nil, api.OK},
		{request(4, ""), []string{"a 2 3", "b 2 3"}, api.OK}, {request(4, "", m(1, "b", "")), []string{"a 1 1"}, api.OK}, {request(1, "", m(3, "a", "(")), nil, api.ErrSyntax}, {request(2, "", m(1, "a", strings.Repeat("x", 33))), nil, api.ErrLabel}, {request(4, "", m(3, "a", "(a{20}){20}")), nil, api.ErrComplex},
	} {
		if got, code := Answer(x.q, l); code != x.code || !slices.Equal(got, x.want) {
			t.Error(x, got, code)
		}
	}
}

func TestP31_5ReadAsPrinted(t *testing.T) {
	for _, q := range right() {
		s, _ := Print(q)
		back, _, code := Parse(s)
		again, c := Print(back)
		if code+c != api.OK || !reflect.DeepEqual(back, q) || again != s {
			t.Error(q, s, again)
		}
	}
}

func TestP31_6Blanks(t *testing.T) {
	for _, s := range []string{`  values ( job )  { a  =  "1" , b  !~ "x|y" }  `, `values(job) {a="1", b!~"x|y"}`, `values( job){ a ="1" ,b!~ "x|y"} `} {
		if q, _, code := Parse(s); code != api.OK || !reflect.DeepEqual(q, right()[`values(job){a="1",b!~"x|y"}`]) {
			t.Error(s, q, code)
		}
	}
	if q, _, code := Parse(" series { a=\" 1 \" } "); code != api.OK || q.Matchers[0].Value != " 1 " {
		t.Error(q, code)
	}
}

func TestP31_7WhatMatchersMean(t *testing.T) {
	var l []string
	for i := range 30 {
		l = append(l, fmt.Sprintf(`{a="%d",b="%d"}`, i%4, i%3), fmt.Sprintf(`{c="%d"}`, i%5))
	}
	for _, s := range []string{`{}`, `{a="1"}`, `{a=~"[12]",b!="0"}`, `{a="",c!~"1|2"}`, `{a!="",a=""}`} {
		q, _, code := Parse("series" + s)
		if code != api.OK {
			t.Fatal(s, code)
		}
		var want []string
		for _, u := range l {
			if x, _ := label.Parse(u); matcher.Match(q.Matchers, x) && !slices.Contains(want, u) {
				want = append(want, u)
			}
		}
		slices.Sort(want)
		got, _ := Answer(q, l)
		q.Kind = api.ReqNames
		names, _ := Answer(q, l)
		q.Kind, q.Name = api.ReqValues, "a"
		values, _ := Answer(q, l)
		q.Kind, q.Name = api.ReqCounts, ""
		counts, _ := Answer(q, l)
		if !slices.Equal(got, want) || !slices.Equal(names, plan.Names(want)) || !slices.Equal(values, plan.Values(want, "a")) || len(counts) != len(names) {
			t.Error(s, got, names, values, counts)
		}
	}
}
