package place_test

import (
	"math"
	"slices"
	"testing"

	"gleaner/api"
	. "gleaner/place"
)

func config(nodes, groups, copies, life int) api.Config {
	return api.Config{Nodes: nodes, Groups: groups, Copies: copies, Life: life}
}

func wrong() []api.Config {
	return []api.Config{{}, config(0, 1, 0, 1), config(17, 1, 1, 1), config(1, 0, 1, 1), config(1, 9, 1, 1), config(1, 1, 0, 1), config(3, 1, 4, 1), config(1, 1, 1, 0), config(1, 1, 1, 10001), config(math.MinInt, 1, math.MinInt, 1), config(1, math.MaxInt, 1, 1), config(2, 1, -1, 1)}
}

func TestP21_1Check(t *testing.T) {
	for _, c := range []api.Config{config(1, 1, 1, 1), config(16, 8, 16, 10000), config(3, 2, 2, 5)} {
		if Check(c) != api.OK {
			t.Error(c)
		}
	}
	for _, c := range wrong() {
		if Check(c) != api.ErrArg {
			t.Error(c)
		}
	}
}

func TestP21_2Group(t *testing.T) {
	for _, c := range []struct {
		name   string
		groups int
		want   int
	}{{"a", 4, 1}, {"", 4, 0}, {"a", 1, 0}, {"a", 0, 0}, {"a", -3, 0}, {"ab", 8, (31*97 + 98) % 8}, {"zzzz", 7, ((((122*31+122)*31+122)%65521*31 + 122) % 65521) % 7}, {"\xff", 1000, 255}, {"a", math.MaxInt, 97}} {
		if g := Group(c.name, c.groups); g != c.want {
			t.Error(c, g)
		}
	}
}

func TestP21_3Groups(t *testing.T) {
	l := []api.Label{{Name: "d"}, {Name: "a"}, {Name: "b"}, {Name: "e"}}
	for groups, want := range map[int][]int{1: {0}, 4: {0, 1, 2}, 2: {0, 1}, 8: {0, 1, 2, 4, 5}, 0: {0}} {
		if got := Groups(l, groups); !slices.Equal(got, want) {
			t.Error(groups, got)
		}
	}
	if got := Groups(nil, 5); !slices.Equal(got, []int{0}) {
		t.Error(got)
	}
}

func TestP21_4Replicas(t *testing.T) {
	for _, x := range []struct {
		c     api.Config
		group int
		want  []int
	}{{config(3, 4, 2, 1), 2, []int{2, 0}}, {config(3, 4, 2, 1), 3, []int{0, 1}}, {config(3, 4, 3, 1), 1, []int{1, 2, 0}}, {config(1, 1, 1, 1), 0, []int{0}}, {config(3, 4, 2, 1), 4, nil}, {config(3, 4, 2, 1), -1, nil}} {
		if got := Replicas(x.c, x.group); !slices.Equal(got, x.want) {
			t.Error(x, got)
		}
	}
	for _, c := range wrong() {
		if Replicas(c, 0) != nil || Keeps(c, 0, 0) {
			t.Error(c)
		}
	}
}

func TestP21_5Keeps(t *testing.T) {
	c := config(3, 4, 2, 1)
	for node, want := range map[int]bool{0: true, 1: false, 2: true, 3: false, -1: false} {
		if Keeps(c, 2, node) != want {
			t.Error(node)
		}
	}
}

func TestP21_6Next(t *testing.T) {
	c := config(4, 4, 3, 1)
	for node, want := range map[int]int{3: 0, 0: 1, 1: 3} {
		if got, ok := Next(c, 3, node); got != want || !ok {
			t.Error(node, got, ok)
		}
	}
	for _, node := range []int{2, 4, -1} {
		if got, ok := Next(c, 3, node); got != 0 || ok {
			t.Error(node, got, ok)
		}
	}
	if got, ok := Next(config(4, 4, 2, 1), 3, 3); got != 0 || !ok {
		t.Error(got, ok)
	}
	if _, ok := Next(config(4, 4, 1, 1), 3, 3); ok {
		t.Error("there is no other one")
	}
	if got, ok := Next(c, 4, 0); got != 0 || ok {
		t.Error(got, ok)
	}
}

// all goes through all configs, but for their life.
func all(f func(c api.Config, group int)) {
	for nodes := 1; nodes <= 16; nodes++ {
		for groups := 1; groups <= 8; groups++ {
			for copies := 1; copies <= nodes; copies++ {
				for g := range groups {
					f(config(nodes, groups, copies, 1), g)
				}
			}
		}
	}
}

func TestP21_7Unlike(t *testing.T) {
	all(func(c api.Config, group int) {
		l := Replicas(c, group)
		slices.Sort(l)
		if len(l) != c.Copies || len(slices.Compact(l)) != c.Copies || l[0] < 0 || l[len(l)-1] >= c.Nodes {
			t.Error(c, group, l)
		}
	})
}

func TestP21_8FromNextToNext(t *testing.T) {
	all(func(c api.Config, group int) {
		l := Replicas(c, group)
		at, seen := l[0], map[int]int{}
		for range l {
			seen[at]++
			at, _ = Next(c, group, at)
		}
		if at != l[0] || len(seen) != len(l) {
			t.Error(c, group, seen)
		}
	})
}

func TestP21_9HomeAndNames(t *testing.T) {
	l := []api.Label{{Name: "job"}, {Name: "instance"}, {Name: "zone"}}
	for groups := 1; groups <= 8; groups++ {
		got := Groups(l, groups)
		if got[0] != 0 || !slices.IsSorted(got) {
			t.Error(got)
		}
		for _, x := range l {
			if !slices.Contains(got, Group(x.Name, groups)) {
				t.Error(got, x)
			}
		}
	}
}
