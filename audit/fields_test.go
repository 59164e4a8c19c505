package audit_test

import (
	"math/rand/v2"
	"reflect"
	"strconv"
	"testing"

	"spigot/api"
	"spigot/audit"
)

// fields are all the places of numbers and of texts within a thing.
func fields(thing reflect.Value) (numbers []*int, texts []*string) {
	switch thing.Kind() {
	case reflect.Int:
		return []*int{thing.Addr().Interface().(*int)}, nil
	case reflect.String:
		return nil, []*string{thing.Addr().Interface().(*string)}
	case reflect.Struct:
		for i := range thing.NumField() {
			n, t := fields(thing.Field(i))
			numbers, texts = append(numbers, n...), append(texts, t...)
		}
	case reflect.Slice:
		for i := range thing.Len() {
			n, t := fields(thing.Index(i))
			numbers, texts = append(numbers, n...), append(texts, t...)
		}
	}
	return numbers, texts
}

// aboutOf are numbers at and beside a number, and at all ends.
func aboutOf(n int) []int {
	return []int{n - 1, n + 1, n - 2, n + 2, 0, 1, -1, 2, 5, 6, 7, mostQty - 1, mostQty, mostQty + 1, 1 << 62, leastInt, leastInt + 1, greatestInt, greatestInt - 1}
}

// pair is two views of one setup, and what is met in them.
type pair struct {
	s    api.Setup
	a, b api.View
	met  map[string]int
}

// look holds Check of either, and Step, against the plain reckoning.
func (x *pair) look(t *testing.T) {
	t.Helper()
	for _, v := range []api.View{x.a, x.b} {
		n, asked := audit.Check(x.s, v), first(brokenOf(x.s, v))
		if n != asked {
			t.Fatalf("Check: %d, asked for %d: %+v\n%+v", n, asked, x.s, v)
		}
		x.met["Check "+strconv.Itoa(n)]++
	}
	n, asked := audit.Step(x.s, x.a, x.b), firstBy(x.s, x.a, x.b)
	if n != asked {
		t.Fatalf("Step: %d, asked for %d: %+v\n%+v\n%+v", n, asked, x.s, x.a, x.b)
	}
	x.met["Step "+strconv.Itoa(n)]++
}

// wantMet holds that each rule was broken, and kept, often enough.
func wantMet(t *testing.T, met map[string]int, often int) {
	t.Helper()
	for n := range 13 {
		for _, call := range []string{"Check ", "Step "} {
			if n <= 8 || call == "Step " {
				if met[call+strconv.Itoa(n)] < often {
					t.Errorf("%s%d was met %d times only", call, n, met[call+strconv.Itoa(n)])
				}
			}
		}
	}
}

// numbersOf are the places of all numbers of the pair.
func (x *pair) numbersOf() (numbers []*int, texts []*string) {
	for _, thing := range []any{&x.s, &x.a, &x.b} {
		n, t := fields(reflect.ValueOf(thing).Elem())
		numbers, texts = append(numbers, n...), append(texts, t...)
	}
	return numbers, texts
}

// P30.1, P30.2: each number of the setup and of either view, at and beside what it is and at all ends; each text another one.
func TestEachField(t *testing.T) {
	x := &pair{s: setup(), a: books(), b: books(), met: map[string]int{}}
	numbers, texts := x.numbersOf()
	if len(numbers) < 400 || len(texts) < 90 {
		t.Fatal(len(numbers), len(texts))
	}
	for _, p := range numbers {
		was := *p
		for _, *p = range aboutOf(was) {
			x.look(t)
		}
		*p = was
	}
	for _, p := range texts {
		was := *p
		for _, *p = range []string{"", "A", "B", "C", "a", was + " ", "\xff"} {
			x.look(t)
		}
		*p = was
	}
	x.look(t)
}

// stir changes some fields of a pair by chance, lists too.
func (x *pair) stir(r *rand.Rand) {
	numbers, texts := x.numbersOf()
	for range 1 + r.IntN(3) {
		switch r.IntN(8) {
		case 0:
			*texts[r.IntN(len(texts))] = []string{"", "A", "B", "D"}[r.IntN(4)]
		case 1:
			v := []*api.View{&x.a, &x.b}[r.IntN(2)]
			v.Killed = !v.Killed
		case 2:
			x.stirLists(r)
			numbers, texts = x.numbersOf()
		default:
			p := numbers[r.IntN(len(numbers))]
			*p = aboutOf(*p)[r.IntN(19)]
		}
	}
}

// stirLists takes a parent or a child away, or doubles it, or takes a number from a list, of either view.
func (x *pair) stirLists(r *rand.Rand) {
	v := []*api.View{&x.a, &x.b}[r.IntN(2)]
	n := len(v.Parents)
	switch r.IntN(8) {
	case 0:
		if n > 0 && len(v.Held) == n {
			v.Parents, v.Held = v.Parents[:n-1], v.Held[:n-1]
		}
	case 1:
		if n > 0 && len(v.Held) == n {
			v.Parents, v.Held = append(v.Parents, cloned(*v).Parents[r.IntN(n)]), append(v.Held, 0)
		}
	case 2:
		list := []*[]int{&v.Used, &v.Realised, &v.Held, &v.Faults}[r.IntN(4)]
		if len(*list) > 0 && r.IntN(4) == 0 {
			*list = (*list)[:len(*list)-1]
		}
	case 3, 4:
		if n > 0 && len(v.Held) == n {
			v.Held[r.IntN(n)] += 1 - 2*r.IntN(2)
		}
	default:
		if n == 0 {
			return
		}
		p := &v.Parents[r.IntN(n)]
		if k := len(p.Children); k > 0 && r.IntN(2) == 0 {
			p.Children = p.Children[:k-1]
		} else {
			p.Children = append(p.Children, api.Child{ID: "new", State: r.IntN(10)})
		}
		if r.IntN(2) == 0 {
			p.State = 1 + r.IntN(6)
		}
	}
}

// mend makes sums right again, so that later rules are reached.
func (x *pair) mend(r *rand.Rand) {
	for _, v := range []*api.View{&x.a, &x.b} {
		for i := range v.Parents {
			p := &v.Parents[i]
			if r.IntN(4) > 0 {
				add(p)
			}
			if r.IntN(3) == 0 && len(v.Held) == len(v.Parents) && p.State > api.PEnding {
				v.Held[i] = 0
			}
		}
		if len(v.Used) == 3 && len(v.Realised) == 3 && len(v.Held) == len(v.Parents) && r.IntN(4) > 0 {
			v.Used, v.Realised = sums(*v)
		}
	}
}

// sums are what the accounts A, B and C use, and what of them was realised, as far as numbers go.
func sums(v api.View) (used, realised []int) {
	used, realised = make([]int, 3), make([]int, 3)
	for i, p := range v.Parents {
		for k, name := range []string{"A", "B", "C"} {
			if p.Account == name {
				used[k] += v.Held[i]
				if p.State > api.PEnding {
					used[k] += p.Worth
					realised[k] += p.Worth
				}
			}
		}
	}
	return used, realised
}

// P30.1, P30.2: several fields and lists at once by chance, mended and not.
func TestFieldsByChance(t *testing.T) {
	met := map[string]int{}
	r := rand.New(rand.NewPCG(30, 1))
	for range 40000 {
		x := &pair{s: setup(), a: books(), b: books(), met: met}
		x.s.Parents = 5 + r.IntN(3)
		x.s.Accounts[r.IntN(3)].Limit += r.IntN(400000)
		x.stir(r)
		if r.IntN(2) == 0 {
			x.mend(r)
		}
		x.look(t)
	}
	wantMet(t, met, 50)
}
