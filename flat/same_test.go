package flat

import (
	"reflect"
	"strings"
	"testing"

	"carillon/api"
)

// parts visits all fields of v that are no structs, lists ahead of their elements, each with a text that tells where it is.
func parts(v reflect.Value, where string, visit func(where string, v reflect.Value)) {
	switch v.Kind() {
	case reflect.Struct:
		for i := range v.NumField() {
			parts(v.Field(i), where+"."+v.Type().Field(i).Name, visit)
		}
	case reflect.Slice:
		visit(where, v)
		for i := range v.Len() {
			parts(v.Index(i), where+"[]", visit)
		}
	default:
		visit(where, v)
	}
}

// altered makes another value of a field that is no list.
func altered(v reflect.Value) {
	switch v.Kind() {
	case reflect.String:
		v.SetString(v.String() + "'")
	case reflect.Uint8:
		v.SetUint(v.Uint() + 1)
	default:
		v.SetInt(v.Int() + 1)
	}
}

// changes are all ways to change one field, or the length of one list, of a flat program like f: each takes one that is to be changed.
func changes(f api.Flat) map[string][]func(f *api.Flat) {
	all := make(map[string][]func(f *api.Flat))
	many := 0
	count := func(string, reflect.Value) { many++ }
	parts(reflect.ValueOf(f), "", count)
	for k := range many {
		at := func(f *api.Flat) (found reflect.Value, where string) {
			i := 0
			parts(reflect.ValueOf(f).Elem(), "", func(name string, v reflect.Value) {
				if i == k {
					found, where = v, name
				}
				i++
			})
			return found, where
		}
		v, where := at(&f)
		if v.Kind() != reflect.Slice {
			all[where] = append(all[where], func(f *api.Flat) { v, _ := at(f); altered(v) })
			continue
		}
		all[where] = append(all[where], func(f *api.Flat) { v, _ := at(f); v.Set(reflect.Append(v, reflect.Zero(v.Type().Elem()))) })
		if v.Len() > 0 {
			all[where] = append(all[where], func(f *api.Flat) { v, _ := at(f); v.SetLen(v.Len() - 1) })
		}
	}
	return all
}

// full is the sample with something other than zero in every field that there is.
func full() api.Flat {
	f := sample()
	f.Ins[0].Start = 3
	f.Calls[0].Args[0].Links[0] = api.Link{Kind: 1, K: 2, Den: 3, Val: 4, Type: 1, At: 6}
	f.Bodies[0].Eqs[0].E = api.Expr{Kind: 1, At: 2, Name: "x", Int: 3, Den: 4, Args: []api.Expr{number(1), of(api.ExNot, number(2))}}
	return f
}

// P8.2: what parts in one field alone, or in the length of one list, is not the same, but for places.
func TestSameFields(t *testing.T) {
	if !Same(full(), full()) || !Same(sample(), sample()) || Same(sample(), full()) {
		t.Error("the same, and not")
	}
	all := changes(full())
	for where, list := range all {
		want := strings.HasSuffix(where, ".At")
		for _, change := range list {
			a, b := full(), full()
			change(&b)
			if Same(a, b) != want || Same(b, a) != want {
				t.Errorf("%s: not %v", where, want)
			}
			if !Same(b, b) {
				t.Errorf("%s: not the same as itself", where)
			}
		}
	}
	for _, where := range []string{".Vars", ".Vars[].At", ".Ins[].Start", ".Calls[].Args[].Links[].Type", ".Copies[].From.Var", ".Outs[].From.Links", ".Bodies[].Vars[]", ".Bodies[].Eqs[].E.Args[].Args[].Int", ".Bodies[].Outs[]"} {
		if len(all[where]) == 0 {
			t.Errorf("nothing was changed at %s", where)
		}
	}
}

// P8.2: order counts.
func TestSameOrder(t *testing.T) {
	for what, swap := range map[string]func(f *api.Flat){
		"variables": func(f *api.Flat) { f.Vars[0], f.Vars[1] = f.Vars[1], f.Vars[0] },
		"inputs":    func(f *api.Flat) { f.Ins[0], f.Ins[1] = f.Ins[1], f.Ins[0] },
		"calls":     func(f *api.Flat) { f.Calls[0], f.Calls[1] = f.Calls[1], f.Calls[0] },
		"outputs":   func(f *api.Flat) { f.Outs[0], f.Outs[1] = f.Outs[1], f.Outs[0] },
		"bodies":    func(f *api.Flat) { f.Bodies[0], f.Bodies[1] = f.Bodies[1], f.Bodies[0] },
		"Args":      func(f *api.Flat) { f.Calls[0].Args[0], f.Calls[0].Args[1] = f.Calls[0].Args[1], f.Calls[0].Args[0] },
		"equations": func(f *api.Flat) { f.Bodies[0].Eqs[0], f.Bodies[0].Eqs[1] = f.Bodies[0].Eqs[1], f.Bodies[0].Eqs[0] },
		"links": func(f *api.Flat) {
			l := f.Copies[0].From.Links
			l[0], l[1] = l[1], l[0]
		},
	} {
		f := sample()
		swap(&f)
		if Same(f, sample()) {
			t.Errorf("%s in another order are the same", what)
		}
	}
}

// R4: lists that are nil are the same as empty ones; what is copied, too.
func TestSameEmpty(t *testing.T) {
	empty := api.Flat{Vars: []api.FlatVar{}, Ins: []api.FlatIn{}, Calls: []api.Call{}, Copies: []api.Copy{}, Outs: []api.FlatOut{}, Bodies: []api.Body{}}
	if !Same(empty, api.Flat{}) || !Same(api.Flat{}, empty) || !Same(Copy(empty), Copy(api.Flat{})) {
		t.Error("empty lists")
	}
	within := func(made bool) api.Flat {
		f := api.Flat{Calls: make([]api.Call, 1), Copies: make([]api.Copy, 1), Outs: make([]api.FlatOut, 1), Bodies: []api.Body{{}, {Eqs: make([]api.BodyEq, 1)}}}
		if made {
			f.Calls[0].Args, f.Calls[0].Outs = []api.Chain{}, []int{}
			f.Copies[0].From.Links, f.Outs[0].From.Links = []api.Link{}, []api.Link{}
			f.Bodies[0] = api.Body{Vars: []uint8{}, Eqs: []api.BodyEq{}, Outs: []int{}}
			f.Bodies[1].Eqs[0].E.Args = []api.Expr{}
		}
		return f
	}
	if a, b := within(false), within(true); !Same(a, b) || !Same(b, a) || !Same(Copy(a), b) || !Same(a, Copy(b)) {
		t.Error("empty lists within")
	}
}

// P8.2: a copy has all, places too; what is changed in it changes nothing of what was copied, and the other way round.
func TestCopy(t *testing.T) {
	for where, list := range changes(full()) {
		for _, change := range list {
			f := full()
			again := Copy(f)
			if !reflect.DeepEqual(f, again) {
				t.Fatalf("%+v is no copy of %+v", again, f)
			}
			change(&again)
			if !reflect.DeepEqual(f, full()) {
				t.Errorf("%s of a copy is that of what was copied", where)
			}
			again = Copy(f)
			change(&f)
			if !reflect.DeepEqual(again, full()) {
				t.Errorf("%s of what was copied is that of a copy", where)
			}
			if third := Copy(f); !reflect.DeepEqual(third, f) {
				t.Errorf("%s is not copied", where)
			}
		}
	}
}

// R1: what may not be is copied, and held against others, too, however deep it is.
func TestSameDeep(t *testing.T) {
	f := sample()
	f.Bodies[0].Eqs[0].E = deep(200000)
	again := Copy(f)
	if !Same(f, again) || Same(f, sample()) {
		t.Error("a deep expression")
	}
	again.Bodies[0].Eqs[0].E = deep(200001)
	if Same(f, again) {
		t.Error("two deep expressions")
	}
}
