package tell_test

import (
	"math/rand/v2"
	"slices"
	"strconv"
	"strings"
	"testing"

	"spigot/api"
	"spigot/body"
	"spigot/roster"
	"spigot/tell"
)

// plan is what the chapter's table says of a kind: the tags in the body's order.
func plan(said string) []int {
	switch said {
	case "8":
		return []int{11, 17, 39, 32, 31, 14, 151, 103}
	case "9":
		return []int{11, 39, 103}
	case "3":
		return []int{371, 373}
	case "j":
		return []int{371, 380}
	}
	return nil
}

// wrongBy is what is wrong with a field's value, by layer 11's words.
func wrongBy(tag int, value string) api.Errno {
	if tag == 11 || tag == 17 {
		if !roster.Valid(value) {
			return api.ErrName
		}
		return api.OK
	}
	n, e := body.Number(value)
	if e != api.OK {
		return api.ErrForm
	}
	if n > highOf(tag) {
		return api.ErrArg
	}
	return api.OK
}

// refusedBy is what Decode must answer beside a tell, by the chapter's words.
func refusedBy(fields []string) (int, api.Errno) {
	if _, e := body.Read(text(fields...)); e != api.OK {
		return 0, e
	}
	value := map[int]string{}
	for _, field := range fields {
		_, said, _ := strings.Cut(field, "=")
		value[tagOf(field)] = said
	}
	want := plan(value[35])
	if want == nil {
		return 35, api.ErrType
	}
	for _, tag := range want {
		if value[tag] == "" {
			return tag, api.ErrMissing
		}
		if e := wrongBy(tag, value[tag]); e != api.OK {
			return tag, e
		}
	}
	for _, field := range fields[1:] {
		if !slices.Contains(want, tagOf(field)) {
			return tagOf(field), api.ErrSpare
		}
	}
	return 0, api.OK
}

// tellBy is the tell of fields that are right.
func tellBy(fields []string) api.Tell {
	x := api.Tell{}
	for _, field := range fields {
		_, said, _ := strings.Cut(field, "=")
		n, _ := strconv.Atoi(said)
		switch tagOf(field) {
		case 35:
			x.Kind = 1 + strings.Index("893j", said)
		case 11:
			x.ID = said
		case 17:
			x.Exec = said
		case 39:
			x.Status = n
		case 32:
			x.Last = n
		case 31:
			x.Price = n
		case 14:
			x.Cum = n
		case 151:
			x.Leaves = n
		case 371:
			x.Tag = n
		case 103, 373, 380:
			x.Reason = n
		}
	}
	return x
}

// spoil changes a few fields of a body, or none.
func spoil(r *rand.Rand, fields []string) []string {
	tags := []int{11, 14, 17, 31, 32, 39, 103, 151, 371, 373, 380, 35, 99}
	values := []string{"a", "1", "9", "10", "0", "07", "a b", "999", "1000", "99999", "100000", "1099511627776", "1099511627777", "8", "3", "j", "b=c", strings.Repeat("x", 20), strings.Repeat("x", 21)}
	for range r.IntN(4) {
		if len(fields) == 0 {
			return nil
		}
		field := form(tags[r.IntN(len(tags))], values[r.IntN(len(values))])
		switch at := r.IntN(len(fields)); r.IntN(4) {
		case 0:
			fields = slices.Delete(fields, at, at+1)
		case 1:
			fields = slices.Insert(fields, at, field)
		case 2:
			fields[at] = form(tagOf(fields[at]), values[r.IntN(len(values))])
		case 3:
			behind := fields[1:]
			r.Shuffle(len(behind), func(i, j int) { behind[i], behind[j] = behind[j], behind[i] })
		}
	}
	return fields
}

// P13.2, P13.3: bodies of which a few fields are changed, held against the chapter's words.
func TestMixedBodies(t *testing.T) {
	r := rand.New(rand.NewPCG(13, 2))
	met := map[api.Errno]int{}
	list := goods()
	for range 100000 {
		fields := spoil(r, slices.Clone(list[r.IntN(len(list))].fields))
		tag, e := refusedBy(fields)
		met[e]++
		if e != api.OK {
			wantRefused(t, text(fields...), tag, e)
		} else {
			wantTell(t, text(fields...), tellBy(fields))
			wantRight(t, tellBy(fields))
		}
	}
	for _, e := range []api.Errno{api.OK, api.ErrMissing, api.ErrRepeat, api.ErrType, api.ErrName, api.ErrForm, api.ErrArg, api.ErrSpare} {
		if met[e] < 100 {
			t.Fatalf("%d is met %d times", e, met[e])
		}
	}
}

// wordsOf are a tell's fields that its kind uses, and whether anything else is set.
func wordsOf(x api.Tell) (fields []string, spare bool) {
	kinds := []string{"", "8", "9", "3", "j"}
	if x.Kind < 1 || x.Kind >= len(kinds) {
		return nil, true
	}
	reason := []int{0, 103, 103, 373, 380}[x.Kind]
	said := map[int]string{11: x.ID, 17: x.Exec}
	for tag, n := range map[int]int{39: x.Status, 32: x.Last, 31: x.Price, 14: x.Cum, 151: x.Leaves, 371: x.Tag, reason: x.Reason} {
		said[tag] = strconv.Itoa(n)
	}
	want := plan(kinds[x.Kind])
	fields = []string{form(35, kinds[x.Kind])}
	for _, tag := range want {
		fields = append(fields, form(tag, said[tag]))
	}
	for tag, value := range said {
		nothing := "0"
		if tag == 11 || tag == 17 {
			nothing = ""
		}
		spare = spare || !slices.Contains(want, tag) && value != nothing
	}
	return fields, spare
}

// shake changes a few fields of a tell, or none.
func shake(r *rand.Rand, x api.Tell) api.Tell {
	values := []int{0, 0, 1, 2, 3, 4, 5, -1, 9, 10, 999, 1000, 99999, 100000, 1 << 40, 1<<40 + 1, leastInt, greatestInt}
	texts := []string{"", "", "a", "b", "0", "a b", "=", "é", "\x01", "\xff", strings.Repeat("x", 20), strings.Repeat("x", 21)}
	for range r.IntN(3) {
		numbers := []*int{&x.Kind, &x.Status, &x.Last, &x.Price, &x.Cum, &x.Leaves, &x.Tag, &x.Reason}
		names := []*string{&x.ID, &x.Exec}
		if r.IntN(4) == 0 {
			*names[r.IntN(len(names))] = texts[r.IntN(len(texts))]
		} else {
			*numbers[r.IntN(len(numbers))] = values[r.IntN(len(values))]
		}
	}
	return x
}

// P13.1, P13.3: tells of which a few fields are changed, held against the chapter's words: those are right whose fields would be taken, if nothing else is set.
func TestMixedTells(t *testing.T) {
	r := rand.New(rand.NewPCG(13, 1))
	right := 0
	list := goods()
	for range 100000 {
		x := shake(r, list[r.IntN(len(list))].tell)
		fields, spare := wordsOf(x)
		if spare {
			wantWrong(t, x)
			continue
		}
		if _, e := refusedBy(fields); e != api.OK {
			wantWrong(t, x)
			continue
		}
		right++
		wantRight(t, x)
		if s, e := tell.Encode(x); s != text(fields...) || e != api.OK {
			t.Fatalf("Encode(%+v): %q, %d; asked for: %q", x, s, e, text(fields...))
		}
	}
	if right < 10000 || right > 90000 {
		t.Fatalf("%d of them are right", right)
	}
}
