package post_test

import (
	"math/rand/v2"
	"slices"
	"strconv"
	"strings"
	"testing"

	"spigot/api"
	"spigot/body"
	"spigot/roster"
)

// isName says whether a tag is that of a name.
func isName(tag int) bool {
	return slices.Contains([]int{11, 17, 19, 55, 150}, tag)
}

// wrongBy is what is wrong with a field's value, by layer 11's words, and of 150 by the chapter's table.
func wrongBy(tag int, value string) api.Errno {
	if isName(tag) {
		if !roster.Valid(value) {
			return api.ErrName
		}
		if tag == 150 && !slices.Contains([]string{"0", "4", "5", "8", "F", "H"}, value) {
			return api.ErrType
		}
		return api.OK
	}
	n, e := body.Number(value)
	if e != api.OK {
		return api.ErrForm
	}
	if n < 1 || n > highOf(tag) {
		return api.ErrArg
	}
	return api.OK
}

// kindBy is the kind of the row that both words stand in; where 150 says none of them the first row that 35 does; or 0.
func (f face[T]) kindBy(word, report string) int {
	first := 0
	for kind := f.kinds; kind > 0; kind-- {
		if f.words[kind] != word {
			continue
		}
		first = kind
		if own := f.report(kind); own == "" || own == report {
			return kind
		}
	}
	return first
}

// refusedBy is what must be answered beside a thing, by the chapter's words.
func (f face[T]) refusedBy(fields []string) (int, api.Errno) {
	if _, e := body.Read(text(fields...)); e != api.OK {
		return 0, e
	}
	value := map[int]string{}
	for _, field := range fields {
		value[tagOf(field)] = valueOf(field)
	}
	kind := f.kindBy(value[35], value[150])
	if kind == 0 {
		return 35, api.ErrType
	}
	want := f.plan(kind)
	for _, tag := range want {
		if value[tag] == "" {
			return tag, api.ErrMissing
		}
		if e := wrongBy(tag, value[tag]); e != api.OK {
			return tag, e
		}
	}
	for _, field := range fields[1:] {
		if !slices.Contains(want, tagOf(field)) {
			return tagOf(field), api.ErrSpare
		}
	}
	return 0, api.OK
}

// thingBy is the thing of fields that are right.
func (f face[T]) thingBy(fields []string) T {
	var x T
	word, report := "", ""
	for _, field := range fields {
		switch tagOf(field) {
		case 35:
			word = valueOf(field)
		case 150:
			report = valueOf(field)
		}
		for _, n := range f.names {
			if n.tag == tagOf(field) {
				*n.at(&x) = valueOf(field)
			}
		}
		for _, n := range f.numbers {
			if n.tag == tagOf(field) {
				*n.at(&x), _ = strconv.Atoi(valueOf(field))
			}
		}
	}
	*f.kind(&x) = f.kindBy(word, report)
	return x
}

// spoil changes a few fields of a body, or none.
func spoil(r *rand.Rand, fields []string) []string {
	tags := []int{11, 17, 19, 31, 32, 34, 38, 44, 54, 55, 150, 35, 99}
	values := []string{"a", "1", "2", "3", "0", "07", "a b", "1099511627776", "1099511627777", "8", "9", "4", "D", "F", "G", "H", "b=c", strings.Repeat("x", 20), strings.Repeat("x", 21)}
	for range r.IntN(4) {
		if len(fields) == 0 {
			return nil
		}
		field := form(tags[r.IntN(len(tags))], values[r.IntN(len(values))])
		switch at := r.IntN(len(fields)); r.IntN(4) {
		case 0:
			fields = without(fields, at)
		case 1:
			fields = put(fields, at, field)
		case 2:
			fields = with(fields, tagOf(fields[at]), valueOf(field))
		case 3:
			behind := fields[1:]
			r.Shuffle(len(behind), func(i, j int) { behind[i], behind[j] = behind[j], behind[i] })
		}
	}
	return fields
}

// P14.2, P14.3: bodies of which a few fields are changed, held against the chapter's words.
func TestMixedBodies(t *testing.T) {
	mixedBodies(t, orders())
	mixedBodies(t, replies())
}

func mixedBodies[T comparable](t *testing.T, f face[T]) {
	r := rand.New(rand.NewPCG(14, 2))
	met := map[api.Errno]int{}
	for range 100000 {
		fields := spoil(r, slices.Clone(f.goods[r.IntN(f.kinds)].fields))
		tag, e := f.refusedBy(fields)
		met[e]++
		if e != api.OK {
			f.wantRefused(t, text(fields...), tag, e)
		} else {
			f.wantThing(t, text(fields...), f.thingBy(fields))
			f.wantRight(t, f.thingBy(fields))
		}
	}
	for _, e := range []api.Errno{api.OK, api.ErrMissing, api.ErrRepeat, api.ErrType, api.ErrName, api.ErrForm, api.ErrArg, api.ErrSpare} {
		if met[e] < 100 {
			t.Fatalf("%d is met %d times", e, met[e])
		}
	}
}

// fieldsBy are a thing's fields that its kind has, and whether anything else is set.
func (f face[T]) fieldsBy(x T) (fields []string, spare bool) {
	kind := *f.kind(&x)
	if kind < 1 || kind > f.kinds {
		return nil, true
	}
	said := map[int]string{150: f.report(kind)}
	for _, n := range f.names {
		said[n.tag] = *n.at(&x)
		spare = spare || !f.used(x, n.tag) && *n.at(&x) != ""
	}
	for _, n := range f.numbers {
		said[n.tag] = strconv.Itoa(*n.at(&x))
		spare = spare || !f.used(x, n.tag) && *n.at(&x) != 0
	}
	fields = []string{form(35, f.words[kind])}
	for _, tag := range f.plan(kind) {
		fields = append(fields, form(tag, said[tag]))
	}
	return fields, spare
}

// shake changes a few fields of a thing, or none.
func (f face[T]) shake(r *rand.Rand, x T) T {
	values := []int{0, 0, 1, 2, 3, 4, 5, -1, 6, 7, 8, 1 << 40, 1<<40 + 1, leastInt, greatestInt}
	texts := []string{"", "", "a", "b", "0", "F", "a b", "=", "é", "\x01", "\xff", strings.Repeat("x", 20), strings.Repeat("x", 21)}
	for range r.IntN(3) {
		switch r.IntN(4) {
		case 0:
			*f.names[r.IntN(len(f.names))].at(&x) = texts[r.IntN(len(texts))]
		case 1:
			*f.kind(&x) = values[r.IntN(len(values))]
		default:
			*f.numbers[r.IntN(len(f.numbers))].at(&x) = values[r.IntN(len(values))]
		}
	}
	return x
}

// P14.1, P14.3: things of which a few fields are changed, held against the chapter's words: those are right whose fields would be taken, if nothing else is set.
func TestMixedThings(t *testing.T) {
	mixedThings(t, orders())
	mixedThings(t, replies())
}

func mixedThings[T comparable](t *testing.T, f face[T]) {
	r := rand.New(rand.NewPCG(14, 1))
	right := 0
	for range 100000 {
		x := f.shake(r, f.goods[r.IntN(f.kinds)].thing)
		fields, spare := f.fieldsBy(x)
		if spare {
			f.wantWrong(t, x)
			continue
		}
		if _, e := f.refusedBy(fields); e != api.OK {
			f.wantWrong(t, x)
			continue
		}
		right++
		f.wantRight(t, x)
		f.wantBody(t, x, fields)
	}
	if right < 10000 || right > 90000 {
		t.Fatalf("%d of them are right", right)
	}
}
