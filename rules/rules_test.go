package rules

import (
	"fmt"
	"math/rand"
	"reflect"
	"strings"
	"testing"
)

// call is a call of the document, by its name.
type call struct {
	name string
	f    any
}

var numbers = []int{0, 1, 2, 3, 6, 8, 15, 16, 17, 20, 21, 63, 64, 120, 121, 255, 256, 600, 4000, 4001, 1 << 40, 1<<40 + 1, 1<<63 - 1, -1 << 63, -1, -2}

var texts = []string{"", "a", "b", "job", "A", "a1", "1", "x|y", "a.*", "(a|b)*", "[a-c]+", "(", "a{2,3}", `{a="1"}`, `{a="1",b="2"}`, `{b="x"}`, "series{}", `values(a){a=~"1"}`, "add 0 {a=\"1\"}\nround\nquery 0 a=1\nround", "p62", "\x00\xff", "300", "\x05abc", "\x80\x01"}

// maker makes arguments: by a rule, or out of what calls answered.
type maker struct {
	*rand.Rand
	answers map[reflect.Type][]reflect.Value
}

// again lays a value anew, with some room behind each list.
func again(v reflect.Value) reflect.Value {
	out := reflect.New(v.Type()).Elem()
	switch v.Kind() {
	case reflect.Slice:
		if v.IsNil() {
			return out
		}
		out.Set(reflect.MakeSlice(v.Type(), v.Len()+2, v.Len()+2).Slice(0, v.Len()))
		for i := range v.Len() {
			out.Index(i).Set(again(v.Index(i)))
		}
	case reflect.Struct:
		for i := range v.NumField() {
			out.Field(i).Set(again(v.Field(i)))
		}
	default:
		out.Set(v)
	}
	return out
}

// size is how many things stand in a value.
func size(v reflect.Value) int {
	n := 1
	switch v.Kind() {
	case reflect.String:
		n += v.Len()
	case reflect.Slice:
		for i := range v.Len() {
			n += size(v.Index(i))
		}
	case reflect.Struct:
		for i := range v.NumField() {
			n += size(v.Field(i))
		}
	}
	return n
}

// value makes a value, with at most deep lists within one another.
func (m maker) value(t reflect.Type, deep int) reflect.Value {
	if l := m.answers[t]; len(l) > 0 && m.Intn(3) > 0 {
		v := again(l[m.Intn(len(l))])
		if m.Intn(4) == 0 {
			m.change(v, deep)
		}
		return v
	}
	v := reflect.New(t).Elem()
	switch t.Kind() {
	case reflect.Int:
		v.SetInt(int64(m.Intn(8)))
		if m.Intn(3) == 0 {
			v.SetInt(int64(numbers[m.Intn(len(numbers))]))
		}
	case reflect.Uint8:
		v.SetUint(uint64(m.Intn(256)))
	case reflect.Uint64:
		v.SetUint(m.Uint64() & m.Uint64())
	case reflect.Bool:
		v.SetBool(m.Intn(2) == 0)
	case reflect.String:
		v.SetString(texts[m.Intn(len(texts))])
	case reflect.Struct:
		for i := range t.NumField() {
			v.Field(i).Set(m.value(t.Field(i).Type, deep-1))
		}
	case reflect.Array:
		for i := range t.Len() {
			v.Index(i).Set(m.value(t.Elem(), deep-1))
		}
	case reflect.Slice:
		for deep > 0 && m.Intn(3) > 0 && v.Len() < 4 {
			v.Set(reflect.Append(v, m.value(t.Elem(), deep-1)))
		}
	}
	return v
}

// change changes one thing in a value.
func (m maker) change(v reflect.Value, deep int) {
	switch v.Kind() {
	case reflect.Struct:
		m.change(v.Field(m.Intn(v.NumField())), deep)
	case reflect.Slice:
		switch {
		case v.Len() == 0 || m.Intn(6) == 0:
			v.Set(reflect.Append(v.Slice3(0, v.Len(), v.Len()), m.value(v.Type().Elem(), deep-2)))
		case m.Intn(6) == 0:
			v.Set(again(v.Slice(0, m.Intn(v.Len()))))
		default:
			m.change(v.Index(m.Intn(v.Len())), deep)
		}
	case reflect.String:
		s := []byte(v.String() + " ")
		s[m.Intn(len(s))] = byte(m.Intn(256))
		v.SetString(string(s))
	default:
		v.Set(m.value(v.Type(), 1))
	}
}

// same tells whether two values are the same; nil and empty lists are.
func same(a, b reflect.Value) bool {
	switch a.Kind() {
	case reflect.Slice:
		for i := 0; a.Len() == b.Len() && i < a.Len(); i++ {
			if !same(a.Index(i), b.Index(i)) {
				return false
			}
		}
		return a.Len() == b.Len()
	case reflect.Struct:
		for i := range a.NumField() {
			if !same(a.Field(i), b.Field(i)) {
				return false
			}
		}
		return true
	}
	return a.Interface() == b.Interface()
}

// list is a list in a value, where it stands there, and where it lies.
type list struct {
	path     string
	from, to uintptr
	v        reflect.Value
}

// lists are all lists in a value.
func lists(path string, v reflect.Value) []list {
	var out []list
	switch v.Kind() {
	case reflect.Slice:
		if v.Cap() > 0 {
			out = append(out, list{path, v.Pointer(), v.Pointer() + uintptr(v.Cap())*v.Type().Elem().Size(), v})
		}
		for i := range v.Len() {
			out = append(out, lists(fmt.Sprint(path, "[", i, "]"), v.Index(i))...)
		}
	case reflect.Struct:
		for i := range v.NumField() {
			out = append(out, lists(path+"."+v.Type().Field(i).Name, v.Field(i))...)
		}
	}
	return out
}

func (a list) meets(b list) bool {
	return a.from < b.to && b.from < a.to
}

// clean tells whether nothing was written into the room behind the lists of a value.
func clean(v reflect.Value) bool {
	for _, l := range lists("", v) {
		all := l.v.Slice(0, l.v.Cap())
		for i := l.v.Len(); i < l.v.Cap(); i++ {
			if !all.Index(i).IsZero() {
				return false
			}
		}
	}
	return true
}

// shared tells which lists of answers lie where they should not.
func shared(answers, args []reflect.Value) string {
	var out, in []list
	for i, x := range answers {
		out = append(out, lists(fmt.Sprint("answer ", i), x)...)
	}
	for i, x := range args {
		in = append(in, lists(fmt.Sprint("argument ", i), x)...)
	}
	for i, x := range out {
		for _, y := range out[:i] {
			if x.meets(y) && !strings.HasPrefix(x.path, y.path) {
				return x.path + " and " + y.path
			}
		}
		for _, y := range in {
			if x.meets(y) && !(x.from == y.from && same(x.v, y.v)) {
				return x.path + " and " + y.path
			}
		}
	}
	return ""
}

// TestR1ToR4 makes calls with whatever there is: none panics, changes its arguments, shares memory that it should not, or answers otherwise the second time.
func TestR1ToR4(t *testing.T) {
	m := maker{rand.New(rand.NewSource(1)), map[reflect.Type][]reflect.Value{}}
	for range 20000 {
		c := all[m.Intn(len(all))]
		f := reflect.ValueOf(c.f)
		var args, before, twice []reflect.Value
		great := 0
		for i := range f.Type().NumIn() {
			x := again(m.value(f.Type().In(i), 5))
			great += size(x)
			args, before, twice = append(args, x), append(before, again(x)), append(twice, again(x))
		}
		if great > 10000 {
			continue
		}
		answers := f.Call(args)
		second := f.Call(twice)
		for i := range args {
			if !same(args[i], before[i]) || !clean(args[i]) {
				t.Fatal(c.name, "changed its argument", i)
			}
		}
		if s := shared(answers, args); s != "" {
			t.Fatal(c.name, "shares", s)
		}
		for i, x := range answers {
			if !same(x, second[i]) {
				t.Fatal(c.name, "answers otherwise")
			}
			l := m.answers[x.Type()]
			if size(x) < 4000 && len(l) < 50 {
				m.answers[x.Type()] = append(l, again(x))
			} else if size(x) < 4000 {
				l[m.Intn(len(l))] = again(x)
			}
		}
	}
}
