package wire_test

import (
	"reflect"

	"sextant/api"
	"sextant/pack"
	"sextant/unpack"
)

// What the chapter says, clause by clause, by its table and the names of api's fields: it shares nothing with the package.

// bound is a reader's.
const bound = 10240

// entry is what stands under a key; what is "number", "yes", "digest", a thing's name, or a list of these, with [] ahead.
type entry struct {
	key, field, what string
	most             int
}

var table = map[string][]entry{
	"Part": {
		{"f", "First", "number", 0}, {"k", "Keys", "number", 0}, {"l", "Life", "number", 0},
		{"r", "Root", "digest", 0}, {"w", "Weight", "number", 0},
	},
	"Sig":  {{"i", "Index", "number", 0}, {"p", "Path", "[]digest", 16}, {"v", "Wots", "[]digest", 67}},
	"Slot": {{"g", "Sig", "Sig", 0}, {"l", "L", "number", 0}, {"s", "Signed", "yes", 0}},
	"Reveal": {
		{"p", "Pos", "number", 0}, {"q", "Part", "Part", 0}, {"s", "Slot", "Slot", 0},
	},
	"Cert": {
		{"P", "PartProof", "[]digest", 10240}, {"S", "SlotProof", "[]digest", 10240}, {"c", "Root", "digest", 0},
		{"p", "Coins", "[]number", 640}, {"r", "Reveals", "[]Reveal", 640}, {"w", "Signed", "number", 0},
	},
	"Msg": {
		{"f", "First", "number", 0}, {"h", "Headers", "digest", 0}, {"l", "Last", "number", 0},
		{"n", "Count", "number", 0}, {"v", "Parts", "digest", 0}, {"w", "Proven", "number", 0},
	},
	"Header": {
		{"p", "Prev", "digest", 0}, {"r", "Round", "number", 0}, {"s", "Seed", "digest", 0}, {"t", "Txns", "digest", 0},
	},
}

// needed is what is never left out: digests by themselves, and a Reveal's Part, which has one.
func (e entry) needed() bool { return e.what == "digest" || e.what == "Part" }

func entryOf(name, key string) (entry, bool) {
	for _, e := range table[name] {
		if e.key == key {
			return e, true
		}
	}
	return entry{}, false
}

// zero tells of what stands in a field whether nothing is told of it.
func zero(v reflect.Value) bool {
	switch v.Kind() {
	case reflect.Slice:
		return v.Len() == 0
	case reflect.Struct:
		for i := range v.NumField() {
			if !zero(v.Field(i)) {
				return false
			}
		}
		return true
	}
	return v.IsZero()
}

// refLay lays a thing of that name; false, if it may not be.
func refLay(w *pack.Writer, name string, v reflect.Value) bool {
	var told []entry
	for _, e := range table[name] {
		if e.needed() || !zero(v.FieldByName(e.field)) {
			told = append(told, e)
		}
	}
	w.Map(len(told))
	for _, e := range told {
		w.Str(e.key)
		if !refLayValue(w, e.what, v.FieldByName(e.field), e.most) {
			return false
		}
	}
	return true
}

func refLayValue(w *pack.Writer, what string, v reflect.Value, most int) bool {
	if what[0] == '[' {
		w.List(v.Len())
		for i := range v.Len() {
			if !refLayValue(w, what[2:], v.Index(i), 0) {
				return false
			}
		}
		return v.Len() <= most
	}
	switch what {
	case "number":
		w.Num(v.Uint())
	case "yes":
		w.Num(1)
	case "digest":
		w.Bin(v.String())
		return v.Len() == 32
	default:
		return refLay(w, what, v)
	}
	return true
}

// refRead reads a thing of that name, up to the first fault.
func refRead(s, name string) (reflect.Value, *api.Fault) {
	r := unpack.New(s, bound)
	v := reflect.New(kinds[name]).Elem()
	if f := refReadThing(r, name, v, false); f != nil {
		return reflect.Zero(kinds[name]), f
	}
	if f := found(r.End()); f != nil {
		return reflect.Zero(kinds[name]), f
	}
	return v, nil
}

// found is what a reader found wrong.
func found(err error) *api.Fault {
	if err == nil {
		return nil
	}
	return err.(*api.Fault)
}

func form() *api.Fault { return &api.Fault{Code: api.ErrForm} }

func refReadThing(r *unpack.Reader, name string, v reflect.Value, field bool) *api.Fault {
	pairs, err := r.Map()
	if err != nil {
		return found(err)
	}
	if field && pairs == 0 {
		return form()
	}
	ahead, had := "", map[string]bool{}
	for range pairs {
		key, err := r.Str()
		if err != nil {
			return found(err)
		}
		e, ok := entryOf(name, key)
		if !ok || key <= ahead {
			return form()
		}
		if f := refReadValue(r, e.what, v.FieldByName(e.field), e.most, false); f != nil {
			return f
		}
		ahead, had[key] = key, true
	}
	for _, e := range table[name] {
		if e.needed() && !had[e.key] {
			return form()
		}
	}
	return nil
}

func refReadValue(r *unpack.Reader, what string, v reflect.Value, most int, inList bool) *api.Fault {
	if what[0] == '[' {
		return refReadList(r, what[2:], v, most)
	}
	switch what {
	case "number", "yes":
		n, err := r.Num()
		if err != nil {
			return found(err)
		}
		if n == 0 && !inList || what == "yes" && n != 1 {
			return form()
		}
		if what == "yes" {
			v.SetBool(true)
		} else {
			v.SetUint(n)
		}
	case "digest":
		d, err := r.Bin()
		if err != nil {
			return found(err)
		}
		if len(d) != 32 {
			return form()
		}
		v.SetString(d)
	default:
		return refReadThing(r, what, v, !inList)
	}
	return nil
}

func refReadList(r *unpack.Reader, what string, v reflect.Value, most int) *api.Fault {
	n, err := r.List()
	if err != nil {
		return found(err)
	}
	if n == 0 {
		return form()
	}
	if n > most {
		return &api.Fault{Code: api.ErrLong}
	}
	for range n {
		one := reflect.New(v.Type().Elem()).Elem()
		if f := refReadValue(r, what, one, 0, true); f != nil {
			return f
		}
		v.Set(reflect.Append(v, one))
	}
	return nil
}
