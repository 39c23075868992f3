package script_test

import (
	"fmt"
	"math"
	"reflect"
	"strings"
	"testing"

	"gleaner/api"
	. "gleaner/script"
)

func config(nodes, groups, copies int) api.Config {
	return api.Config{Nodes: nodes, Groups: groups, Copies: copies, Life: 10}
}

func pairs(l ...string) []api.Label {
	var out []api.Label
	for i := 0; i+1 < len(l); i += 2 {
		out = append(out, api.Label{Name: l[i], Value: l[i+1]})
	}
	return out
}

// acts are one of each kind, and some more.
func acts() []api.Act {
	return []api.Act{
		{Kind: api.ActAdd, A: 1, Labels: pairs("a", "1")}, {Kind: api.ActRemove, Labels: pairs("a", `x" %~`, "b", `\`)}, {Kind: api.ActTick}, {Kind: api.ActGossip, A: 15}, {Kind: api.ActHand, B: 3}, {Kind: api.ActLose}, {Kind: api.ActTwice, B: api.MaxInt}, {Kind: api.ActSweep, A: api.MaxInt},
		{Kind: api.ActQuery, A: 2}, {Kind: api.ActQuery, Matchers: []api.Matcher{{Kind: 1, Name: "a", Value: "1"}, {Kind: 2, Name: "b", Value: "~="}, {Kind: 3, Name: "c_9", Value: "x|\x00\xff\n"}, {Kind: 4, Name: "d"}, {Kind: 1, Name: "e", Value: "=~!"}, {Kind: 1, Name: "a"}}}, {Kind: api.ActRound},
	}
}

const printed = `add 1 {a="1"}
remove 0 {a="x\"%20%25%7e",b="\\"}
tick
gossip 15
hand 3
lose 0
twice 1099511627776
sweep 1099511627776
query 2
query 0 a=1 b!=%7e= c_9=~x|%00%ff%0a d!~ e==%7e! a=
round
`

func TestP30_1Print(t *testing.T) {
	if s, code := Print(acts()); s != printed || code != api.OK {
		t.Error(s, code)
	}
	if s, code := Print(nil); s != "" || code != api.OK {
		t.Error(s, code)
	}
	one := []api.Matcher{{Kind: 1, Name: "a"}}
	for _, a := range []api.Act{
		{}, {Kind: 11}, {Kind: -1}, {Kind: api.ActTick, A: 1}, {Kind: api.ActRound, B: 1}, {Kind: api.ActGossip, B: 1}, {Kind: api.ActHand, A: 1}, {Kind: api.ActGossip, A: -1}, {Kind: api.ActHand, B: api.MaxInt + 1}, {Kind: api.ActHand, B: math.MinInt},
		{Kind: api.ActAdd}, {Kind: api.ActAdd, Labels: pairs("b", "1", "a", "1")}, {Kind: api.ActAdd, Labels: pairs("a", "")}, {Kind: api.ActTick, Labels: pairs("a", "1")}, {Kind: api.ActAdd, Labels: pairs("a", "1"), Matchers: one}, {Kind: api.ActGossip, Matchers: one},
		{Kind: api.ActQuery, Matchers: []api.Matcher{{Kind: 1}}}, {Kind: api.ActQuery, Matchers: []api.Matcher{{Kind: 5, Name: "a"}}}, {Kind: api.ActQuery, Matchers: []api.Matcher{{Name: "a"}}}, {Kind: api.ActQuery, Labels: pairs("a", "1")},
	} {
		if s, code := Print([]api.Act{{Kind: api.ActTick}, a}); s != "" || code != api.ErrArg {
			t.Error(a, s, code)
		}
	}
	ticks := make([]api.Act, 2401)
	for i := range ticks {
		ticks[i].Kind = api.ActTick
	}
	if s, code := Print(ticks[:2400]); len(s) != 12000 || code != api.OK {
		t.Error(len(s), code)
	}
	if s, code := Print(append(ticks, api.Act{})); s != "" || code != api.ErrLong {
		t.Error(len(s), code)
	}
	if _, code := Print(append(ticks[:2400:2400], api.Act{})); code != api.ErrArg {
		t.Error(code)
	}
}

func TestP30_2Parse(t *testing.T) {
	for s, want := range map[string][]api.Act{"": nil, "\n\n": nil, "#\n# add\n": nil, "tick": {{Kind: api.ActTick}}, "\ntick\n#x\nround": {{Kind: api.ActTick}, {Kind: api.ActRound}}, printed: acts()} {
		if l, n, code := Parse(s); n != 0 || code != api.OK || !reflect.DeepEqual(l, want) {
			t.Errorf("%q: %v %d %d", s, l, n, code)
		}
	}
	for _, s := range []string{
		"x", " tick", "tick ", "tick 0", "tick\r", "Tick", "add", "add 0", `add {a="1"}`, `add 0 {a="1"} `, `add 0  {a="1"}`, `add 00 {a="1"}`, `add -1 {a="1"}`, `add 1099511627777 {a="1"}`, `add 0 {b="1",a="1"}`, `add 0 {a="x y"}`, `add 0 {a="%41"}`, `add 0 {a="%7E"}`, `add 0 {a="~"}`, `add 0 {a="%2"}`, `add 0 %`,
		"gossip", "gossip 1 2", "hand", "hand x", "round 1", "query", "query a=1", "query 0 a", "query 0 a!1", "query 0 A=1", "query 0 =1", "query 0 a=~~", "query 0 a=%4", "query 0 ", "query 0 a=1  b=1", "query 0 a=%", "sweep 1 ", "#\x00\n tick",
	} {
		for i, ahead := range []string{"", "tick\n", "\n#\nround\n"} {
			line := []int{1, 2, 4}[i] + strings.Count(s, "\n")
			if l, n, code := Parse(ahead + s + "\nnothing"); l != nil || n != line || code != api.ErrForm {
				t.Errorf("%q: %v %d %d", s, l, n, code)
			}
		}
	}
	if l, n, code := Parse(strings.Repeat("x", 12001)); l != nil || n != 0 || code != api.ErrLong {
		t.Error(n, code)
	}
	if l, n, code := Parse(strings.Repeat("\n", 12000)); l != nil || n != 0 || code != api.OK {
		t.Error(n, code)
	}
}

func TestP30_3Tell(t *testing.T) {
	for _, x := range []struct {
		f    api.Fact
		want string
	}{
		{api.Fact{Kind: api.FactAdd, Series: `{a="x y"}`, Dot: api.Dot{Node: 3, N: 4}, Tick: 5}, `came 3 4 5 {a="x%20y"}`}, {api.Fact{Kind: api.FactGone, Series: "%", Tick: -5}, "gone 0 0 -5 %25"}, {api.Fact{Kind: api.FactAnswer, List: []string{"a", "b~"}, Still: true}, "told 0 1 a b%7e"},
		{api.Fact{Kind: api.FactAnswer, Error: api.ErrTime}, "told 12 0"}, {api.Fact{}, "told 0 0"}, {api.Fact{Kind: 9, List: []string{""}}, "told 0 0 "},
	} {
		if s := Tell(x.f); s != x.want {
			t.Errorf("%q", s)
		}
	}
}

func TestP30_4Run(t *testing.T) {
	for _, x := range []struct {
		c    api.Config
		s    string
		want string
		code api.Errno
	}{
		{config(1, 1, 1), "add 0 {a=\"1\"}\nround\nround\nquery 0 a=1\n", "came 0 1 0 {a=\"1\"}\ntold 0 1 {a=\"1\"}\nend 2 1 1 0 0\n", api.OK}, {config(1, 1, 1), "", "end 0 1 1 0 0\n", api.OK},
		{config(2, 2, 1), "add 0 {a=\"1\"}\ntick\ntwice 0\n", "came 0 1 0 {a=\"1\"}\nend 1 1 0 2 1\n", api.OK}, {config(3, 2, 1), "add 0 {a=\"1\"}\nround\nround\nquery 2 a=1\nround", "came 0 1 0 {a=\"1\"}\ntold 0 0 {a=\"1\"}\nend 2 1 1 0 0\n", api.OK},
		{config(0, 0, 0), "tick\nx", "2\n", api.ErrForm}, {config(0, 0, 0), strings.Repeat("x", 12001), "0\n", api.ErrLong}, {config(0, 0, 0), "tick", "", api.ErrArg}, {config(1, 1, 1), "query 7\nadd 3 {a=\"1\"}\nhand 9", "end 0 1 1 0 0\n", api.OK},
	} {
		if s, code := Run(x.c, x.s); s != x.want || code != x.code {
			t.Errorf("%q: %q %d", x.s, s, code)
		}
	}
}

func TestP30_5ReadAsPrinted(t *testing.T) {
	l, _, _ := Parse(printed)
	if s, code := Print(l); s != printed || code != api.OK {
		t.Error(s, code)
	}
	l, _, _ = Parse("\n# x\n" + strings.ReplaceAll(printed, "\n", "\n\n#y\n"))
	if s, code := Print(l); s != printed || code != api.OK {
		t.Error(s, code)
	}
	for i := range acts() {
		s, _ := Print(acts()[i : i+1])
		if back, n, code := Parse(s); n != 0 || code != api.OK || !reflect.DeepEqual(back, acts()[i:i+1]) {
			t.Error(s, back, code)
		}
	}
}

// written is a script by a rule.
func written(c api.Config, seed, steps int) []string {
	next := func(n int) int {
		seed = (seed*1103 + 12345) % 65521
		return seed % n
	}
	var l []string
	for range steps {
		a := next(c.Nodes)
		switch next(11) {
		case 0, 1, 2:
			l = append(l, fmt.Sprintf(`add %d {%c="%d",e="%d"}`, a, 'a'+next(4), next(3), next(2)))
		case 3:
			l = append(l, fmt.Sprintf(`remove %d {%c="%d",e="%d"}`, a, 'a'+next(4), next(3), next(2)))
		case 4:
			l = append(l, []string{"tick", fmt.Sprint("sweep ", a), "round"}[next(3)])
		case 5:
			l = append(l, fmt.Sprint("gossip ", a))
		case 6, 7:
			l = append(l, fmt.Sprint("hand ", next(3)))
		case 8:
			l = append(l, fmt.Sprint([]string{"lose ", "twice "}[next(2)], next(3)))
		default:
			l = append(l, fmt.Sprint("query ", a, []string{"", " a=1", " e!=0 a=~[12]", " b=~.+ d=", " c=~("}[next(5)]))
		}
	}
	return l
}

func TestP30_6And7BeginningsAndJudgement(t *testing.T) {
	told := 0
	for seed, c := range []api.Config{config(3, 4, 2), config(1, 3, 1), config(4, 8, 1), config(2, 2, 2), config(5, 5, 3)} {
		l := written(c, seed+2, 200)
		ahead := ""
		for i := 0; i <= len(l); i += 20 {
			s, code := Run(c, strings.Join(l[:i], "\n"))
			at := strings.LastIndex(strings.TrimSuffix(s, "\n"), "\n") + 1
			if code != api.OK || !strings.HasPrefix(s, ahead) || !strings.HasPrefix(s[at:], fmt.Sprintf("end %d 1 ", strings.Count(s, "\n")-1)) {
				t.Fatalf("%v %d: %s", c, i, s[at:])
			}
			ahead = s[:at]
		}
		told += strings.Count(ahead, "told 0 ")
	}
	if told < 50 {
		t.Error("only", told)
	}
}
