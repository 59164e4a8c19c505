package rules

import (
	"slices"

	"spigot/api"
	"spigot/roster"
)

func accountName(a api.Account) string { return a.Name }

func symbolName(s api.Symbol) string { return s.Name }

func venueName(v api.Venue) string { return v.Name }

// named says whether there are from 1 to most in a list, each with a name of its own. A roster is asked: it refuses what is no name, and what is there already.
func named[T any](list []T, most int, name func(T) string) bool {
	if !within(len(list), 1, most) {
		return false
	}
	names, _ := roster.New(most)
	for _, one := range list {
		if _, e := names.Put(name(one)); e != api.OK {
			return false
		}
	}
	return true
}

// places is where the names of a list stand in it.
func places[T any](list []T, name func(T) string) map[string]int {
	at := make(map[string]int, len(list))
	for i, one := range list {
		at[name(one)] = i
	}
	return at
}

// copied is a setup whose lists are memory of its own.
func copied(s api.Setup) api.Setup {
	s.Accounts = slices.Clone(s.Accounts)
	s.Symbols = slices.Clone(s.Symbols)
	s.Venues = slices.Clone(s.Venues)
	return s
}
