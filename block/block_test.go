package block_test

import (
	"math"
	"slices"
	"strings"
	"testing"

	"gleaner/api"
	. "gleaner/block"
)

// lists are some rising lists, each number some steps from the one ahead.
func lists() [][]int {
	out := [][]int{nil, {0}, {api.MaxInt}, {0, api.MaxInt}, {3, 4, 300}}
	for _, count := range []int{15, 16, 17, 31, 32, 33, 4000} {
		for _, step := range []int{1, 2, 129, 20000} {
			l := make([]int, count)
			for i := range l {
				l[i] = 7 + i*step + i*i%step
			}
			out = append(out, l)
		}
	}
	return out
}

// wrong are blocks that are of no numbers.
func wrong() []api.Block {
	one := []api.Skip{{Id: 3}}
	many, _ := Encode(lists()[14])
	shift := many
	shift.Skips = slices.Clone(many.Skips)
	shift.Skips[1].At++
	return []api.Block{
		{Count: 1}, {Count: -1}, {Count: math.MaxInt}, {Count: math.MinInt}, {Count: api.MaxIds + 1}, {Skips: one}, {Data: "\x00"}, {Count: 1, Data: "\x00", Skips: one},
		{Count: 2, Skips: one}, {Count: 2, Data: "\x80", Skips: one}, {Count: 2, Data: "\x80\x00", Skips: one}, {Count: 2, Data: "\x00\x00", Skips: one},
		{Count: 1, Skips: []api.Skip{{Id: -1}}}, {Count: 1, Skips: []api.Skip{{Id: api.MaxInt + 1}}}, {Count: 1, Skips: []api.Skip{{Id: 3, At: 1}}}, {Count: 2, Data: "\x00\x00", Skips: []api.Skip{{Id: 3, At: 1}}},
		{Count: 2, Data: "\x00", Skips: []api.Skip{{Id: api.MaxInt}}}, {Count: 2, Data: "\x00", Skips: []api.Skip{{Id: math.MaxInt}}}, {Count: 2, Data: "\x00", Skips: []api.Skip{{Id: 3, At: math.MaxInt}}}, {Count: 2, Data: "\x00", Skips: []api.Skip{{Id: 3, At: -1}}},
		{Count: 17, Data: strings.Repeat("\x00", 15), Skips: []api.Skip{{Id: 3}, {Id: 18, At: 15}}}, shift,
	}
}

func TestP5_1Encode(t *testing.T) {
	seventeen := make([]int, 18)
	for i := range seventeen {
		seventeen[i] = 2 * i
	}
	long := make([]int, api.MaxIds+1)
	for i := range long {
		long[i] = i
	}
	for _, c := range []struct {
		l    []int
		want api.Block
		code api.Errno
	}{
		{nil, api.Block{}, api.OK}, {[]int{3, 4, 300}, api.Block{Count: 3, Data: "\x00\xa7\x02", Skips: []api.Skip{{Id: 3}}}, api.OK},
		{seventeen, api.Block{Count: 18, Data: strings.Repeat("\x01", 16), Skips: []api.Skip{{}, {Id: 32, At: 15}}}, api.OK},
		{[]int{4, 3}, api.Block{}, api.ErrArg}, {[]int{4, 4}, api.Block{}, api.ErrArg}, {[]int{-1}, api.Block{}, api.ErrArg}, {[]int{1, api.MaxInt + 1}, api.Block{}, api.ErrArg}, {[]int{math.MinInt, math.MaxInt}, api.Block{}, api.ErrArg},
		{long, api.Block{}, api.ErrLong}, {make([]int, api.MaxIds+1), api.Block{}, api.ErrLong}, {append(seventeen[:16:16], 30), api.Block{}, api.ErrArg},
	} {
		b, code := Encode(c.l)
		if code != c.code || b.Count != c.want.Count || b.Data != c.want.Data || !slices.Equal(b.Skips, c.want.Skips) {
			t.Errorf("%v: %v %d", c.l, b, code)
		}
	}
}

func TestP5_2Decode(t *testing.T) {
	if l, code := Decode(api.Block{Count: 3, Data: "\x00\xa7\x02", Skips: []api.Skip{{Id: 3}}}); code != api.OK || !slices.Equal(l, []int{3, 4, 300}) {
		t.Error(l, code)
	}
	for _, b := range wrong() {
		if l, code := Decode(b); code != api.ErrForm || l != nil {
			t.Error(b, l, code)
		}
	}
}

func TestP5_3Right(t *testing.T) {
	for _, l := range lists() {
		if b, _ := Encode(l); !Right(b) {
			t.Error(l)
		}
	}
	for _, b := range wrong() {
		if Right(b) {
			t.Error(b)
		}
	}
}

func TestP5_4Seek(t *testing.T) {
	b, _ := Encode([]int{3, 4, 300})
	for id, want := range map[int]int{math.MinInt: 3, -1: 3, 3: 3, 4: 4, 5: 300, 300: 300, 301: -1, math.MaxInt: -1} {
		if n, ok := Seek(b, id); ok != (want >= 0) || n != max(want, 0) {
			t.Error(id, n, ok)
		}
	}
	for _, b := range wrong() {
		if n, ok := Seek(b, 0); n != 0 || ok {
			t.Error(b, n, ok)
		}
	}
}

func TestP5_5ReadBack(t *testing.T) {
	for _, l := range lists() {
		b, code := Encode(l)
		back, c := Decode(b)
		again, d := Encode(back)
		if code+c+d != api.OK || !slices.Equal(l, back) || again.Data != b.Data || !slices.Equal(again.Skips, b.Skips) || again.Count != b.Count {
			t.Error(len(l), code, c, d)
		}
	}
}

func TestP5_6SeekAll(t *testing.T) {
	for _, l := range lists() {
		if len(l) > 100 {
			continue
		}
		b, _ := Encode(l)
		for _, n := range append([]int{0}, l...) {
			for id := n - 1; id <= n+1; id++ {
				i := slices.IndexFunc(l, func(x int) bool { return x >= id })
				got, ok := Seek(b, id)
				if ok != (i >= 0) || ok && got != l[i] {
					t.Fatal(l, id, got, ok)
				}
			}
		}
	}
}

func TestP5_7FewBytes(t *testing.T) {
	for _, l := range lists() {
		if b, _ := Encode(l); len(b.Data) > 6*len(l) {
			t.Error(len(l), len(b.Data))
		}
	}
	l := make([]int, 4000)
	for i := range l {
		l[i] = api.MaxInt - 4000 + i
	}
	if b, _ := Encode(l); len(b.Data) != 4000-250 {
		t.Error(len(b.Data))
	}
}
