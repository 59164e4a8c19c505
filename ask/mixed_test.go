package ask_test

import (
	"math/rand/v2"
	"slices"
	"strconv"
	"strings"
	"testing"

	"spigot/api"
	"spigot/ask"
	"spigot/body"
	"spigot/curve"
	"spigot/roster"
)

// plan is what the chapter's table says of a kind and an algorithm: the tags in the body's order.
func plan(kind string, algo int) []int {
	switch kind {
	case "D":
		list := []int{11, 1, 55, 54, 38, 44, 5001, 5002, 5003}
		switch algo {
		case 2:
			list = append(list, 5006)
		case 3:
			list = append(list, 5004)
		case 4:
			list = append(list, 5005)
		}
		return list
	case "G":
		return []int{11, 41, 38, 44, 5003}
	case "F", "UP", "UR":
		return []int{11, 41}
	}
	return nil
}

// ends are those of the number in a field.
func ends(tag int) (low, high int) {
	switch tag {
	case 54:
		return 1, 2
	case 5001:
		return 1, 4
	case 38, 44, 5005:
		return 1, 1 << 40
	case 5004:
		return 1, 10000
	case 5006:
		return 0, 1 << 20
	}
	return 0, 1 << 40
}

// wrongBy is what is wrong with a field's value, by layer 11's words.
func wrongBy(tag int, value string) api.Errno {
	if slices.Contains([]int{1, 11, 41, 55}, tag) {
		if !roster.Valid(value) {
			return api.ErrName
		}
		return api.OK
	}
	parts := []string{value}
	if tag == 5006 {
		parts = strings.Split(value, ",")
	}
	for _, part := range parts {
		if _, e := body.Number(part); e != api.OK {
			return api.ErrForm
		}
	}
	if len(parts) > api.MaxBuckets {
		return api.ErrBig
	}
	low, high := ends(tag)
	for _, part := range parts {
		if n, _ := body.Number(part); n < low || n > high {
			return api.ErrArg
		}
	}
	return api.OK
}

// refusedBy is what Decode must answer beside an ask, by the chapter's words.
func refusedBy(fields []string) (int, api.Errno) {
	if _, e := body.Read(text(fields...)); e != api.OK {
		return 0, e
	}
	value := map[int]string{}
	for _, field := range fields {
		_, said, _ := strings.Cut(field, "=")
		value[tagOf(field)] = said
	}
	algo, _ := strconv.Atoi(value[5001])
	want := plan(value[35], algo)
	if want == nil {
		return 35, api.ErrType
	}
	for _, tag := range want {
		if value[tag] == "" {
			return tag, api.ErrMissing
		}
		if e := wrongBy(tag, value[tag]); e != api.OK {
			return tag, e
		}
	}
	for _, field := range fields[1:] {
		if !slices.Contains(want, tagOf(field)) {
			return tagOf(field), api.ErrSpare
		}
	}
	start, _ := strconv.Atoi(value[5002])
	end, _ := strconv.Atoi(value[5003])
	if value[35] == "D" && (end <= start || end-start > 1<<30) {
		return 5003, api.ErrTime
	}
	if weights, _ := body.Numbers(value[5006]); slices.Contains(want, 5006) && curve.Check(weights) != api.OK {
		return 5006, api.ErrCurve
	}
	return 0, api.OK
}

// askBy is the ask of fields that are right.
func askBy(fields []string) api.Ask {
	a := api.Ask{}
	for _, field := range fields {
		_, said, _ := strings.Cut(field, "=")
		n, _ := strconv.Atoi(said)
		switch tagOf(field) {
		case 35:
			a.Kind = slices.Index([]string{"", "D", "F", "G", "UP", "UR"}, said)
		case 11:
			a.ID = said
		case 41:
			a.Target = said
		case 1:
			a.Account = said
		case 55:
			a.Symbol = said
		case 54:
			a.Side = n
		case 38:
			a.Qty = n
		case 44:
			a.Price = n
		case 5001:
			a.Algo = n
		case 5002:
			a.Start = n
		case 5003:
			a.End = n
		case 5004:
			a.Rate = n
		case 5005:
			a.Show = n
		case 5006:
			for _, part := range strings.Split(said, ",") {
				n, _ := strconv.Atoi(part)
				a.Curve = append(a.Curve, n)
			}
		}
	}
	return a
}

// spoil changes a field or two of a body, or none.
func spoil(r *rand.Rand, fields []string) []string {
	tags := []int{1, 11, 38, 41, 44, 54, 55, 5001, 5002, 5003, 5004, 5005, 5006, 35, 99}
	values := []string{"a", "1", "2", "3", "4", "0", "9", "10", "07", "a b", "1,2", "0,0", "0,0,0", "0", "10001", "1048577", "1099511627776", "1099511627777", "1073741827", "D", "UP", "b=c", strings.Repeat("x", 21)}
	for range r.IntN(4) {
		field := strconv.Itoa(tags[r.IntN(len(tags))]) + "=" + values[r.IntN(len(values))]
		switch at := r.IntN(len(fields)); r.IntN(4) {
		case 0:
			fields = slices.Delete(fields, at, at+1)
		case 1:
			fields = slices.Insert(fields, at, field)
		case 2:
			fields[at] = strconv.Itoa(tagOf(fields[at])) + "=" + values[r.IntN(len(values))]
		case 3:
			behind := fields[min(1, len(fields)):]
			r.Shuffle(len(behind), func(i, j int) { behind[i], behind[j] = behind[j], behind[i] })
		}
		if len(fields) == 0 {
			return nil
		}
	}
	return fields
}

// P12.2, P12.3: bodies of which a few fields are changed, held against the chapter's words.
func TestMixedBodies(t *testing.T) {
	r := rand.New(rand.NewPCG(12, 2))
	met := map[api.Errno]int{}
	list := goods()
	for range 100000 {
		fields := spoil(r, slices.Clone(list[r.IntN(len(list))].fields))
		tag, e := refusedBy(fields)
		met[e]++
		if e != api.OK {
			wantRefused(t, text(fields...), tag, e)
		} else {
			wantAsk(t, text(fields...), askBy(fields))
			wantRight(t, askBy(fields))
		}
	}
	for _, e := range []api.Errno{api.OK, api.ErrMissing, api.ErrRepeat, api.ErrType, api.ErrName, api.ErrForm, api.ErrArg, api.ErrSpare, api.ErrTime, api.ErrCurve} {
		if met[e] < 10 {
			t.Fatalf("%d is met %d times", e, met[e])
		}
	}
}

// wordsOf are an ask's fields that its kind and algorithm use, and whether anything else is set.
func wordsOf(a api.Ask) (fields []string, spare bool) {
	kinds := []string{"", "D", "F", "G", "UP", "UR"}
	if a.Kind < 1 || a.Kind >= len(kinds) {
		return nil, true
	}
	said := map[int]string{1: a.Account, 11: a.ID, 41: a.Target, 55: a.Symbol, 5006: commas(a.Curve)}
	for tag, n := range map[int]int{54: a.Side, 38: a.Qty, 44: a.Price, 5001: a.Algo, 5002: a.Start, 5003: a.End, 5004: a.Rate, 5005: a.Show} {
		said[tag] = strconv.Itoa(n)
	}
	fields = []string{"35=" + kinds[a.Kind]}
	want := plan(kinds[a.Kind], a.Algo)
	for _, tag := range want {
		fields = append(fields, strconv.Itoa(tag)+"="+said[tag])
	}
	for tag, text := range said {
		if !slices.Contains(want, tag) && text != "" && text != "0" {
			spare = true
		}
	}
	return fields, spare || slices.Contains(want, 5006) == (len(a.Curve) == 0)
}

// shake changes a field or two of an ask, or none.
func shake(r *rand.Rand, a api.Ask) api.Ask {
	values := []int{0, 0, 1, 2, 3, 4, 5, -1, 9, 10, 10000, 10001, 1 << 20, 1<<20 + 1, 1 << 30, 1<<30 + 3, 1<<30 + 4, 1 << 40, 1<<40 + 1, leastInt, greatestInt}
	texts := []string{"", "a", "b", "a b", "=", "é", "\x01", "\xff", strings.Repeat("x", 20), strings.Repeat("x", 21)}
	curves := append(append(rightCurves(), wrongCurves()...), nil, []int{})
	for range r.IntN(3) {
		numbers := []*int{&a.Kind, &a.Side, &a.Qty, &a.Price, &a.Algo, &a.Start, &a.End, &a.Rate, &a.Show}
		names := []*string{&a.ID, &a.Target, &a.Account, &a.Symbol}
		switch r.IntN(4) {
		case 0:
			*names[r.IntN(len(names))] = texts[r.IntN(len(texts))]
		case 1:
			a.Curve = curves[r.IntN(len(curves))]
		default:
			*numbers[r.IntN(len(numbers))] = values[r.IntN(len(values))]
		}
	}
	return a
}

// P12.1, P12.3: asks of which a few fields are changed, held against the chapter's words: those are right whose fields would be taken, if nothing else is set.
func TestMixedAsks(t *testing.T) {
	r := rand.New(rand.NewPCG(12, 1))
	right := 0
	list := goods()
	for range 100000 {
		a := shake(r, list[r.IntN(len(list))].ask)
		fields, spare := wordsOf(a)
		if spare {
			wantWrong(t, a)
			continue
		}
		if _, e := refusedBy(fields); e != api.OK {
			wantWrong(t, a)
			continue
		}
		right++
		wantRight(t, a)
		if s, e := ask.Encode(a); s != text(fields...) || e != api.OK {
			t.Fatalf("Encode(%+v): %q, %d; asked for: %q", a, s, e, text(fields...))
		}
	}
	if right < 10000 || right > 90000 {
		t.Fatalf("%d of them are right", right)
	}
}
