package net_test

import (
	"math"
	"reflect"
	"slices"
	"testing"

	"gleaner/api"
	. "gleaner/net"
)

// msg is a message with a number, and with lists.
func msg(n int) api.Msg {
	return api.Msg{Kind: n%5 + 1, Number: n, Series: []string{"s"}, Context: api.Context{Cloud: []api.Dot{{N: n}}}}
}

func flight(l ...int) []api.Msg {
	var out []api.Msg
	for _, n := range l {
		out = append(out, msg(n))
	}
	return out
}

func TestP23_1Send(t *testing.T) {
	l := flight(1, 2)
	got, code := Send(l, msg(3))
	if code != api.OK || !reflect.DeepEqual(got, flight(1, 2, 3)) || !reflect.DeepEqual(l, flight(1, 2)) {
		t.Error(got, code)
	}
	var all []int
	for i := range 599 {
		all = append(all, i)
	}
	l, code = Send(flight(all...), msg(599))
	if code != api.OK || len(l) != 600 {
		t.Error(code)
	}
	if got, code := Send(l, msg(7)); code != api.ErrFull || !reflect.DeepEqual(got, l) {
		t.Error(code)
	}
	if got, code := Twice(l, 0); code != api.ErrFull || !reflect.DeepEqual(got, l) {
		t.Error(code)
	}
	if _, code := Twice(l, 600); code != api.ErrNone {
		t.Error(code)
	}
}

func TestP23_2TakeAndLose(t *testing.T) {
	l := flight(4, 5, 6)
	for i, rest := range [][]int{{5, 6}, {4, 6}, {4, 5}} {
		got, m, code := Take(l, i)
		if code != api.OK || !reflect.DeepEqual(m, msg(4+i)) || !reflect.DeepEqual(got, flight(rest...)) || !reflect.DeepEqual(l, flight(4, 5, 6)) {
			t.Error(i, got, m, code)
		}
		if got, code := Lose(l, i); code != api.OK || !reflect.DeepEqual(got, flight(rest...)) {
			t.Error(i, got, code)
		}
	}
	for _, i := range []int{-1, 3, math.MaxInt, math.MinInt} {
		if got, m, code := Take(l, i); code != api.ErrNone || !reflect.DeepEqual(m, api.Msg{}) || !reflect.DeepEqual(got, l) {
			t.Error(i, code)
		}
		if got, code := Lose(l, i); code != api.ErrNone || !reflect.DeepEqual(got, l) {
			t.Error(i, code)
		}
	}
}

func TestP23_3Twice(t *testing.T) {
	l := flight(4, 5)
	got, code := Twice(l, 0)
	if code != api.OK || !reflect.DeepEqual(got, flight(4, 5, 4)) {
		t.Error(got, code)
	}
	got[0].Series[0] = "other"
	if got[2].Series[0] != "s" {
		t.Error("both are one")
	}
	for _, i := range []int{-1, 2, math.MaxInt} {
		if got, code := Twice(flight(4, 5), i); code != api.ErrNone || !reflect.DeepEqual(got, flight(4, 5)) {
			t.Error(i, code)
		}
	}
}

func TestP23_4OfAndBusy(t *testing.T) {
	for kind := 0; kind <= 6; kind++ {
		l := []api.Msg{{Kind: kind}, {Kind: kind}, {Kind: api.MsgAsk}}
		want := 2
		if kind == api.MsgAsk {
			want = 3
		}
		if n := Of(l, kind); n != want || Of(nil, kind) != 0 {
			t.Error(kind, n)
		}
		if Busy(l) != (kind == api.MsgDelta || kind == api.MsgDigest) {
			t.Error(kind)
		}
	}
	if Busy(nil) {
		t.Error("nothing is busy")
	}
}

// TestP23_5AsItWasSent holds a flight against a list of numbers.
func TestP23_5AsItWasSent(t *testing.T) {
	var l []api.Msg
	var want []int
	for i := range 500 {
		k := i * 7 % 11
		switch i % 5 {
		case 0, 1, 2:
			l, _ = Send(l, msg(i))
			want = append(want, i)
		case 3:
			if k < len(want) {
				l, _ = Twice(l, k)
				want = append(want, want[k])
			}
		default:
			next, m, code := Take(l, k)
			if k < len(want) {
				if code != api.OK || !reflect.DeepEqual(m, msg(want[k])) {
					t.Fatal(i, m, code)
				}
				want = slices.Delete(want, k, k+1)
			}
			l = next
		}
		if !reflect.DeepEqual(l, flight(want...)) {
			t.Fatal(i)
		}
	}
}

func TestP23_6NoMemoryShared(t *testing.T) {
	m := msg(1)
	l, _ := Send(nil, m)
	m.Series[0], m.Context.Cloud[0].N = "x", 77
	if !reflect.DeepEqual(l, flight(1)) {
		t.Error("the message is the one that was sent")
	}
	room := append(make([]api.Msg, 0, 5), flight(1, 2)...)
	_, _ = Send(room, msg(3))
	_, _ = Lose(room, 0)
	if !reflect.DeepEqual(room[:3], append(flight(1, 2), api.Msg{})) {
		t.Error("what lies behind a list was written")
	}
}
