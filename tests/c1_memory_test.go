package tests

import (
	"slices"
	"testing"

	"loop.example/ordercounts/impl"
)

// listFunctions are the functions of the first layer that turn an order or a table into a list.
func listFunctions() map[string]func([]int) []int {
	first := func(list []int, _ bool) []int { return list }
	return map[string]func([]int) []int{
		"InverseOrder":   impl.InverseOrder,
		"TurnOrder":      impl.TurnOrder,
		"OppositeOrder":  impl.OppositeOrder,
		"TableOf":        impl.TableOf,
		"DescentsOf":     impl.DescentsOf,
		"MultiplyOrders": func(p []int) []int { return first(impl.MultiplyOrders(p, p)) },
		"OrderOfTable":   func(p []int) []int { return first(impl.OrderOfTable(p)) },
		"SumOrders":      func(p []int) []int { return first(impl.SumOrders(p, nil)) },
		"SumOrders of 2": func(p []int) []int { return first(impl.SumOrders(nil, p)) },
		"SkewOrders":     func(p []int) []int { return first(impl.SkewOrders(p, nil)) },
		"Skew of 2":      func(p []int) []int { return first(impl.SkewOrders(nil, p)) },
	}
}

// overwrite fills a list and its spare capacity.
func overwrite(list []int) {
	list = list[:cap(list)]
	for k := range list {
		list[k] = -9
	}
}

// fresh reports whether a function leaves a list as it is, and what it returns for it is memory of its own.
func fresh(list func([]int) []int, p []int) bool {
	// The spare capacity of the argument is not to be written to either.
	argument := append(make([]int, 0, 8), p...)
	before := slices.Clone(argument[:8])
	first := list(argument)
	again := slices.Clone(first)
	overwrite(first)
	return slices.Equal(argument[:8], before) && slices.Equal(list(argument), again)
}

func TestListsAreFresh(t *testing.T) {
	for name, list := range listFunctions() {
		for _, p := range [][]int{{2, 1, 0}, {0, 1, 2}, {3, 2, 1, 0}} {
			if !fresh(list, p) {
				t.Errorf("%s(%v) changes or shares memory", name, p)
			}
		}
	}
}

func TestCountsKeepArguments(t *testing.T) {
	for _, p := range append(ordersUpTo(4), notOrders()...) {
		before := slices.Clone(p)
		impl.ValidOrder(p)
		impl.InversionsOf(p)
		impl.RankOf(p)
		impl.MajorOf(p)
		impl.SignOf(p)
		impl.OrderText(p)
		impl.CirclesOf(p)
		if !slices.Equal(p, before) {
			t.Fatalf("%v became %v", before, p)
		}
	}
}

// apart reports whether overwriting each list leaves the others alone.
func apart(lists [][]int) bool {
	for i, list := range lists {
		var before [][]int
		for _, l := range lists[i+1:] {
			before = append(before, slices.Clone(l))
		}
		overwrite(list)
		if !slices.EqualFunc(before, lists[i+1:], slices.Equal) {
			return false
		}
	}
	return true
}

func TestListsOfListsAreApart(t *testing.T) {
	for n := range impl.MaxList + 1 {
		if !apart(impl.AllOrders(n)) {
			t.Errorf("AllOrders(%d) share memory", n)
		}
		if !slices.EqualFunc(impl.AllOrders(n), ordersOf(n), slices.Equal) {
			t.Errorf("AllOrders(%d) are kept from call to call", n)
		}
	}
	p := []int{2, 1, 4, 3, 0}
	if !apart(impl.CirclesOf(p)) || !slices.Equal(p, []int{2, 1, 4, 3, 0}) {
		t.Error("CirclesOf share memory")
	}
	rising := impl.RisingOrder(4)
	overwrite(rising)
	if !rises(impl.RisingOrder(4)) {
		t.Error("RisingOrder is kept from call to call")
	}
	ranked, _ := impl.OrderOfRank(4, 0)
	overwrite(ranked)
	if again, ok := impl.OrderOfRank(4, 0); !ok || !rises(again) {
		t.Error("OrderOfRank is kept from call to call")
	}
}
