// Package whole holds tests alone: what the document says of the whole, and its ten examples.
package whole

import (
	"fmt"
	"slices"
	"strings"
	"testing"

	"gleaner/api"
	"gleaner/cluster"
	"gleaner/judge"
	"gleaner/node"
	"gleaner/orset"
	"gleaner/plan"
	"gleaner/script"
	"gleaner/selector"
	"gleaner/shard"
)

func config(nodes, groups, copies, life int) api.Config {
	return api.Config{Nodes: nodes, Groups: groups, Copies: copies, Life: life}
}

// run plays a script, and tells its report without the last line.
func run(t *testing.T, c api.Config, lines ...string) []string {
	s, code := script.Run(c, strings.Join(lines, "\n"))
	if code != api.OK {
		t.Fatal(s, code)
	}
	l := strings.Split(strings.TrimSuffix(s, "\n"), "\n")
	if end := strings.Fields(l[len(l)-1]); end[2] != "1" {
		t.Error("not right", l)
	}
	return l[:len(l)-1]
}

// last is the last line of a report.
func last(l []string) string {
	return l[len(l)-1]
}

func TestTenExamples(t *testing.T) {
	three := config(3, 4, 2, 5)
	add, query := `add 0 {a="1"}`, "query 2 a=1"
	if l := run(t, three, add, "round", "round", query, "round"); last(l) != `told 0 0 {a="1"}` {
		t.Error(1, l)
	}
	// Node 1 keeps home, too, and does not know of the add when it removes.
	if l := run(t, three, `add 1 {a="1"}`, add, `remove 1 {a="1"}`, "round", "round", "round", query, "round"); last(l) != `told 0 0 {a="1"}` {
		t.Error(2, l)
	}
	if l := run(t, three, add, "round", "round", `remove 1 {a="1"}`, "round", "round", "round", query, "round"); last(l) != "told 0 0" {
		t.Error(3, l)
	}
	if l := run(t, three, add, `add 0 {a="2",b="x"}`, `add 0 {a="2",b="y"}`, `add 0 {a="3"}`, "round", "round", "query 1 a=~1|2 b!=x", "round"); last(l) != `told 0 0 {a="1"} {a="2",b="y"}` {
		t.Error(4, l)
	}
	if l := run(t, three, add, `add 0 {a="2",b="x"}`, `add 0 {c="3"}`, "round", "round", "query 1 b=", "round"); last(l) != `told 0 0 {a="1"} {c="3"}` {
		t.Error(5, l)
	}
	lost := []string{`query 0 a=1`}
	for range 24 {
		lost = append(lost, "lose 0", "tick")
	}
	lone := config(2, 2, 1, 5)
	if l := run(t, lone, lost...); len(l) != 1 || l[0] != "told 12 0" {
		t.Error(6, l)
	}
	if l := run(t, lone, lost[:len(lost)-2]...); len(l) != 0 {
		t.Error(6, l)
	}
	c, _ := cluster.New(three)
	if _, _, code := cluster.Do(c, api.Act{Kind: api.ActQuery, Matchers: []api.Matcher{{Kind: api.MatchRx, Name: "a", Value: "(a|b)*a(a|b){7}"}}}); code != api.ErrComplex {
		t.Error(7, code)
	}
	ticks := []string{"tick", "tick", "tick", "tick", "tick"}
	kept := slices.Concat([]string{add}, ticks, []string{add}, ticks, []string{"tick", "sweep 0", "query 0"})
	if l := run(t, config(1, 1, 1, 5), kept...); last(l) != "told 0 1" {
		t.Error(8, l)
	}
	kept = slices.Concat([]string{add}, ticks, []string{add, "sweep 0"}, ticks, []string{"sweep 0", "query 0"})
	if l := run(t, config(1, 1, 1, 5), kept...); last(l) != `told 0 1 {a="1"}` {
		t.Error(8, l)
	}
	if l := run(t, lone, add, `add 0 {a="2"}`, "twice 0", "twice 1", "twice 0", "hand 3", "hand 3", "hand 1", "hand 0", "hand 2", "round", "round", "query 1 a=~.+", "round"); last(l) != `told 0 1 {a="1"} {a="2"}` {
		t.Error(9, l)
	}
	q, _, _ := selector.Parse("names{}")
	l := run(t, three, add, `add 0 {a="1",b="2"}`, `remove 0 {a="1",b="2"}`, "round", "round", "query 2", "round")
	if names, code := selector.Answer(q, strings.Fields(last(l))[3:]); code != api.OK || !slices.Equal(names, []string{"a"}) {
		t.Error(10, names, code)
	}
}

// rule makes numbers by a rule.
type rule int

func (r *rule) below(n int) int {
	*r = (*r*1103 + 12345) % 65521
	return int(*r) % n
}

// acts are acts by a rule.
func acts(r *rule, c api.Config, steps int) []api.Act {
	var l []api.Act
	for range steps {
		a := api.Act{Kind: r.below(10) + 1, A: r.below(c.Nodes), B: r.below(5)}
		switch a.Kind {
		case api.ActAdd, api.ActRemove:
			a.Labels = []api.Label{{Name: string(rune('a' + r.below(5))), Value: fmt.Sprint(r.below(4))}, {Name: "z", Value: fmt.Sprint(r.below(2))}}
		case api.ActQuery:
			a.Matchers = []api.Matcher{{Kind: r.below(4) + 1, Name: string(rune('a' + r.below(5))), Value: []string{"1", "", "3"}[r.below(3)]}, {Kind: api.MatchNot, Name: "z", Value: "1"}}[:r.below(3)]
		}
		l = append(l, a)
	}
	return l
}

// home are the series of the node that keeps home first.
func home(c api.Cluster) []string {
	s, _ := node.Shard(c.Nodes[0], 0)
	return shard.Series(s)
}

func TestG1ToG6(t *testing.T) {
	for seed := range 40 {
		r := rule(seed*31 + 1)
		conf := config(1+r.below(7), 1+r.below(8), 1, 1+r.below(9))
		conf.Copies += r.below(conf.Nodes)
		c, _ := cluster.New(conf)
		c, facts := cluster.Play(c, acts(&r, conf, 150))
		if at, ok := judge.Judge(facts); !ok {
			t.Fatal("G5", conf, facts[at])
		}
		for range 2 * conf.Nodes {
			c = cluster.Round(c)
		}
		if !cluster.Quiet(c) || !cluster.Quiet(cluster.Round(c)) {
			t.Fatal("G3", conf)
		}
		agree(t, c)
		answers(t, c)
		sweeps(t, c)
	}
}

// agree holds G3: replicas hold the same set and lists.
func agree(t *testing.T, c api.Cluster) {
	for g := range c.Config.Groups {
		var first *api.Shard
		for _, n := range c.Nodes {
			s, ok := node.Shard(n, g)
			switch {
			case !ok:
			case first == nil:
				first = &s
			case !orset.Same(first.Set, s.Set) || !slices.Equal(shard.Series(*first), shard.Series(s)):
				t.Fatal("G3", c.Config, g, n.Id)
			}
		}
	}
}

// answers holds G1 and G4: a query at any node answers the live series that are chosen.
func answers(t *testing.T, c api.Cluster) {
	live := home(c)
	for i := range c.Nodes {
		m := []api.Matcher{{Kind: api.MatchRx, Name: "a", Value: "[0-2]?"}, {Kind: api.MatchNot, Name: "z", Value: "1"}}
		_, facts := cluster.Play(c, []api.Act{{Kind: api.ActQuery, A: i, Matchers: m}, {Kind: api.ActRound}})
		want := plan.Choose(live, m)
		if len(facts) != 1 || facts[0].Error != api.OK || !slices.Equal(facts[0].List, want) {
			t.Fatal("G1", c.Config, i, facts, want)
		}
		counts, code := selector.Answer(api.Request{Kind: api.ReqCounts, Matchers: m}, live)
		if code != api.OK || len(counts) != len(plan.Names(facts[0].List)) {
			t.Fatal("G4", counts)
		}
	}
}

// sweeps holds G6: behind sweeps and rounds nothing lives that is older than its life.
func sweeps(t *testing.T, c api.Cluster) {
	for i := range c.Nodes {
		c, _, _ = cluster.Do(c, api.Act{Kind: api.ActSweep, A: i})
	}
	for range 2 * c.Config.Nodes {
		c = cluster.Round(c)
	}
	s, _ := node.Shard(c.Nodes[0], 0)
	for _, x := range home(c) {
		if newest, _ := orset.Newest(s.Set, x); newest < c.Now-c.Config.Life {
			t.Fatal("G6", c.Config, x, newest, c.Now)
		}
	}
	agree(t, c)
}
