package codec_test

import (
	"math"
	"reflect"
	"strings"
	"testing"

	"gleaner/api"
	. "gleaner/codec"
)

func dots(l ...int) []api.Dot {
	var out []api.Dot
	for i := 0; i+1 < len(l); i += 2 {
		out = append(out, api.Dot{Node: l[i], N: l[i+1]})
	}
	return out
}

// full is a message with something in each field.
func full() api.Msg {
	return api.Msg{Kind: 1, From: 2, To: 3, Group: 4, Number: 300,
		Delta:   api.Delta{Entries: []api.Entry{{Series: `{a="1"}`, Dot: api.Dot{Node: 5, N: 6}, Tick: 7, Links: []api.Link{{Group: 8, Dot: api.Dot{Node: 9, N: 10}}}}, {}}, Alive: dots(5, 6, 11, 12), Context: api.Context{Vector: dots(13, 14), Cloud: dots(15, 16, 17, 18)}},
		Context: api.Context{Vector: dots(19, 20), Cloud: dots(21, 22)}, Matcher: api.Matcher{Kind: 23, Name: "n", Value: "\xff"}, Series: []string{"", "xy"}, Error: 13}
}

const bytes = "\x01\x02\x03\x04\xac\x02" + "\x02\x07{a=\"1\"}\x05\x06\x07\x01\x08\x09\x0a\x00\x00\x00\x00\x00" + "\x02\x05\x06\x0b\x0c" + "\x01\x0d\x0e\x02\x0f\x10\x11\x12" + "\x01\x13\x14\x01\x15\x16" + "\x17\x01n\x01\xff" + "\x02\x00\x02xy" + "\x0d"

func TestP22_1Write(t *testing.T) {
	if s, code := Write(full()); s != bytes || code != api.OK {
		t.Errorf("%q %d", s, code)
	}
	if s, code := Write(api.Msg{}); s != strings.Repeat("\x00", 16) || code != api.OK {
		t.Errorf("%q %d", s, code)
	}
	for i, change := range []func(m *api.Msg){
		func(m *api.Msg) { m.Kind = -1 }, func(m *api.Msg) { m.From = api.MaxInt + 1 }, func(m *api.Msg) { m.To = math.MinInt }, func(m *api.Msg) { m.Group = -1 }, func(m *api.Msg) { m.Number = math.MaxInt }, func(m *api.Msg) { m.Error = -1 },
		func(m *api.Msg) { m.Delta.Entries[0].Series = strings.Repeat("x", 4001) }, func(m *api.Msg) { m.Delta.Entries[0].Tick = -1 }, func(m *api.Msg) { m.Delta.Entries[1].Dot.N = -1 }, func(m *api.Msg) { m.Delta.Entries[0].Links[0].Group = -1 }, func(m *api.Msg) { m.Delta.Entries[0].Links = make([]api.Link, 4001) },
		func(m *api.Msg) { m.Delta.Alive[0].Node = -1 }, func(m *api.Msg) { m.Delta.Context.Cloud[1].N = -1 }, func(m *api.Msg) { m.Context.Vector[0].Node = -1 }, func(m *api.Msg) { m.Matcher.Kind = -1 }, func(m *api.Msg) { m.Matcher.Name = strings.Repeat("x", 4001) }, func(m *api.Msg) { m.Matcher.Value = strings.Repeat("x", 4001) },
		func(m *api.Msg) { m.Series[1] = strings.Repeat("x", 4001) }, func(m *api.Msg) { m.Series = make([]string, 4001) }, func(m *api.Msg) { m.Delta.Entries = make([]api.Entry, 4001) }, func(m *api.Msg) { m.Context.Cloud = make([]api.Dot, 4001) },
	} {
		m := full()
		change(&m)
		if s, code := Write(m); s != "" || code != api.ErrArg {
			t.Error(i, code)
		}
	}
}

func TestP22_2Read(t *testing.T) {
	if m, code := Read(bytes); code != api.OK || !reflect.DeepEqual(m, func() api.Msg { x := full(); return x }()) {
		t.Error(m, code)
	}
	if m, code := Read(strings.Repeat("\x00", 16)); code != api.OK || !reflect.DeepEqual(m, api.Msg{}) {
		t.Error(m, code)
	}
	nought := strings.Repeat("\x00", 16)
	for s, want := range map[string]api.Errno{
		"": api.ErrShort, nought + "\x00": api.ErrForm, "\x80\x00" + nought: api.ErrForm, "\x81\x80\x80\x80\x80\x20": api.ErrLong, nought[:5] + "\xa1\x1f": api.ErrLong, nought[:5] + "\xa0\x1f": api.ErrShort, nought[:5] + "\x80\x00": api.ErrForm,
		nought[:5] + "\x01\xa1\x1f": api.ErrLong, nought[:5] + "\x01\x05abc": api.ErrShort, nought[:12] + "\xa1\x1f": api.ErrLong, nought[:14] + "\xa1\x1f": api.ErrLong, nought[:14] + "\x01\x01": api.ErrShort, nought + "\x80\x80": api.ErrForm, nought[:15] + "\x80": api.ErrShort,
	} {
		if m, code := Read(s); code != want || !reflect.DeepEqual(m, api.Msg{}) {
			t.Errorf("%q: %d, want %d", s, code, want)
		}
	}
}

func TestP22_3ReadBack(t *testing.T) {
	great := api.Msg{Kind: api.MaxInt, Series: []string{strings.Repeat("x", 4000)}, Error: api.MaxInt}
	many := api.Msg{Series: make([]string, 4000), Context: api.Context{Cloud: make([]api.Dot, 4000)}}
	for _, m := range []api.Msg{full(), {}, great, many} {
		s, code := Write(m)
		back, c := Read(s)
		again, d := Write(back)
		if code+c+d != api.OK || !reflect.DeepEqual(back, m) || again != s {
			t.Error(code, c, d)
		}
	}
	for i := range len(bytes) {
		for _, b := range []byte{0, 1, 2, 127, 128, 255} {
			s := bytes[:i] + string([]byte{b}) + bytes[i+1:]
			if m, code := Read(s); code == api.OK {
				if again, c := Write(m); again != s || c != api.OK {
					t.Errorf("%q: %q", s, again)
				}
			}
		}
	}
}

func TestP22_4CutOff(t *testing.T) {
	for i := range len(bytes) {
		if m, code := Read(bytes[:i]); code != api.ErrShort || !reflect.DeepEqual(m, api.Msg{}) {
			t.Error(i, code)
		}
	}
}
