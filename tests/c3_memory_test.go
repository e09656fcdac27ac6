package tests

import (
	"slices"
	"testing"

	"loop.example/ordercounts/impl"
)

// mapFunctions are the functions of the third layer, each as one that turns a list into a list.
func mapFunctions() map[string]func([]int) []int {
	first := func(list []int, _ bool) []int { return list }
	return map[string]func([]int) []int{
		"ToLine":              impl.ToLine,
		"FromLine":            impl.FromLine,
		"FoataMap":            impl.FoataMap,
		"FoataBack":           impl.FoataBack,
		"MajorTable":          impl.MajorTable,
		"ExceedMap":           impl.ExceedMap,
		"OrderOfMajorTable":   func(t []int) []int { return first(impl.OrderOfMajorTable(t)) },
		"InsertTop ahead":     func(p []int) []int { return first(impl.InsertTop(p, 0)) },
		"InsertTop inside":    func(p []int) []int { return first(impl.InsertTop(p, 1)) },
		"InsertTop behind":    func(p []int) []int { return first(impl.InsertTop(p, len(p))) },
		"RemoveAt the first":  func(p []int) []int { return first(impl.RemoveAt(p, 0)) },
		"RemoveAt the second": func(p []int) []int { return first(impl.RemoveAt(p, 1)) },
		"RemoveAt the last":   func(p []int) []int { return first(impl.RemoveAt(p, len(p)-1)) },
	}
}

func TestMapsAreFresh(t *testing.T) {
	for name, list := range mapFunctions() {
		for _, p := range [][]int{{0, 1, 2}, {2, 1, 0}, {2, 0, 1}, {0, 2, 1}, {0, 1, 3, 2}, {3, 0, 2, 1}, {2, 3, 1, 0}} {
			if !fresh(list, p) {
				t.Errorf("%s of %v changes or shares memory", name, p)
			}
		}
	}
}

func TestMapsKeepOtherNumbers(t *testing.T) {
	for name, list := range mapFunctions() {
		for _, p := range notOrders() {
			before := slices.Clone(p)
			list(p)
			if !slices.Equal(p, before) {
				t.Errorf("%s: %v became %v", name, before, p)
			}
		}
	}
}
