package impl

import "iter"

// MaxN is the largest number of values.
const MaxN = 7

// MaxList is the largest number of values of which all orders are listed.
const MaxList = 5

// places holds one number a place. Places that are not there hold 0, so that == compares what is there.
type places [MaxN]int

// ValidOrder reports whether numbers are an order.
func ValidOrder(p []int) bool {
	if len(p) > MaxN {
		return false
	}
	var found, once places
	for k, x := range p {
		if x < 0 || x >= len(p) {
			return false
		}
		found[x]++
		once[k] = 1
	}
	return found == once
}

// RisingOrder returns the order that rises.
func RisingOrder(n int) []int {
	if n < 0 || n > MaxN {
		return nil
	}
	p := make([]int, n)
	for k := range p {
		p[k] = k
	}
	return p
}

// InverseOrder returns the places of values.
func InverseOrder(p []int) []int {
	if !ValidOrder(p) {
		return nil
	}
	inverse := make([]int, len(p))
	for k, x := range p {
		inverse[x] = k
	}
	return inverse
}

// TurnOrder returns values from the last one to the first one.
func TurnOrder(p []int) []int {
	if !ValidOrder(p) {
		return nil
	}
	turned := make([]int, len(p))
	for k, x := range p {
		turned[len(p)-1-k] = x
	}
	return turned
}

// OppositeOrder returns values from above.
func OppositeOrder(p []int) []int {
	if !ValidOrder(p) {
		return nil
	}
	opposite := make([]int, len(p))
	for k, x := range p {
		opposite[k] = len(p) - 1 - x
	}
	return opposite
}

// MultiplyOrders returns the product of two orders.
func MultiplyOrders(p []int, q []int) ([]int, bool) {
	if !ValidOrder(p) || !ValidOrder(q) || len(p) != len(q) {
		return nil, false
	}
	product := make([]int, len(p))
	for k, x := range q {
		product[k] = p[x]
	}
	return product, true
}

// TableOf returns how many lesser values stand behind each place.
func TableOf(p []int) []int {
	if !ValidOrder(p) {
		return nil
	}
	table := make([]int, len(p))
	for k, x := range p {
		for _, y := range p[k+1:] {
			if y < x {
				table[k]++
			}
		}
	}
	return table
}

// InversionsOf returns how many pairs stand the wrong way round.
func InversionsOf(p []int) int {
	if !ValidOrder(p) {
		return -1
	}
	sum := 0
	for _, lesser := range TableOf(p) {
		sum += lesser
	}
	return sum
}

// OrderOfTable returns the order of a table.
func OrderOfTable(t []int) ([]int, bool) {
	if !validTable(t) {
		return nil, false
	}
	p := make([]int, len(t))
	var taken [MaxN]bool
eachPlace:
	for k, lesser := range t {
		for x := range t {
			if taken[x] {
				continue
			}
			if lesser == 0 {
				p[k], taken[x] = x, true
				continue eachPlace
			}
			lesser--
		}
	}
	return p, true
}

// validTable reports whether no number is below 0 or greater than the number of places behind it.
func validTable(t []int) bool {
	if len(t) > MaxN {
		return false
	}
	for k, lesser := range t {
		if lesser < 0 || lesser > len(t)-1-k {
			return false
		}
	}
	return true
}

// RankOf returns how many orders come ahead of one.
func RankOf(p []int) int {
	if !ValidOrder(p) {
		return -1
	}
	rank := 0
	for k, lesser := range TableOf(p) {
		rank = rank*(len(p)-k) + lesser
	}
	return rank
}

// OrderOfRank returns the order of a rank.
func OrderOfRank(n int, r int) ([]int, bool) {
	if n < 0 || n > MaxN || r < 0 {
		return nil, false
	}
	table := make([]int, n)
	for k := n - 1; k >= 0; k-- {
		table[k] = r % (n - k)
		r /= n - k
	}
	if r > 0 {
		return nil, false
	}
	return OrderOfTable(table)
}

// AllOrders returns all orders.
func AllOrders(n int) [][]int {
	if n < 0 || n > MaxList {
		return nil
	}
	all := [][]int{}
	for order := range ordersByRank(n) {
		p := make([]int, n)
		copy(p, order[:])
		all = append(all, p)
	}
	return all
}

// ordersByRank gives out the orders of n values, from the rising one to the falling one.
func ordersByRank(n int) iter.Seq[places] {
	return func(yield func(places) bool) {
		var order, last places
		copy(order[:], RisingOrder(n))
		copy(last[:], TurnOrder(RisingOrder(n)))
		for yield(order) && order != last {
			order = orderBehind(order, n)
		}
	}
}

// orderBehind returns the order of the next rank. The order may not be the falling one, which has none behind it.
func orderBehind(order places, n int) places {
	rise := n - 2
	for order[rise] > order[rise+1] {
		rise--
	}
	greater := n - 1
	for order[greater] < order[rise] {
		greater--
	}
	order[rise], order[greater] = order[greater], order[rise]
	// The values behind the rise still fall, so turning them makes them the least rest.
	for i, k := rise+1, n-1; i < k; i, k = i+1, k-1 {
		order[i], order[k] = order[k], order[i]
	}
	return order
}

// DescentsOf returns the places behind which a lesser value stands.
func DescentsOf(p []int) []int {
	if !ValidOrder(p) {
		return nil
	}
	descents := []int{}
	for k := 1; k < len(p); k++ {
		if p[k-1] > p[k] {
			descents = append(descents, k-1)
		}
	}
	return descents
}

// MajorOf returns the sum of the places of descents.
func MajorOf(p []int) int {
	if !ValidOrder(p) {
		return -1
	}
	sum := 0
	for _, k := range DescentsOf(p) {
		sum += k + 1
	}
	return sum
}

// CirclesOf returns the circles of an order.
func CirclesOf(p []int) [][]int {
	if !ValidOrder(p) {
		return nil
	}
	circles := [][]int{}
	var seen [MaxN]bool
	for least := range p {
		if seen[least] {
			continue
		}
		circle := circleFrom(p, least)
		for _, x := range circle {
			seen[x] = true
		}
		circles = append(circles, circle)
	}
	return circles
}

// circleFrom returns the circle of a valid order that a value is in, from that value on.
func circleFrom(p []int, first int) []int {
	circle := []int{first}
	for x := p[first]; x != first; x = p[x] {
		circle = append(circle, x)
	}
	return circle
}

// SignOf returns the sign of an order.
func SignOf(p []int) int {
	if !ValidOrder(p) {
		return 0
	}
	if InversionsOf(p)%2 == 0 {
		return 1
	}
	return -1
}

// SumOrders returns one order, and another one above it behind.
func SumOrders(p []int, q []int) ([]int, bool) {
	return joinOrders(p, 0, q, len(p))
}

// SkewOrders returns one order, and another one below it behind.
func SkewOrders(p []int, q []int) ([]int, bool) {
	return joinOrders(p, len(q), q, 0)
}

// joinOrders returns the values of two orders, one behind the other, each order moved up by a number of its own.
func joinOrders(p []int, upP int, q []int, upQ int) ([]int, bool) {
	if !ValidOrder(p) || !ValidOrder(q) || len(p)+len(q) > MaxN {
		return nil, false
	}
	joined := make([]int, 0, len(p)+len(q))
	for _, x := range p {
		joined = append(joined, x+upP)
	}
	for _, x := range q {
		joined = append(joined, x+upQ)
	}
	return joined, true
}

// OrderText returns the text of an order.
func OrderText(p []int) string {
	if !ValidOrder(p) {
		return ""
	}
	text := make([]byte, len(p))
	for k, x := range p {
		text[k] = byte('0' + x)
	}
	return string(text)
}

// ParseOrder returns the order of a text.
func ParseOrder(s string) ([]int, bool) {
	if len(s) > MaxN {
		return nil, false
	}
	p := make([]int, len(s))
	for k := range p {
		p[k] = int(s[k]) - '0'
	}
	if !ValidOrder(p) {
		return nil, false
	}
	return p, true
}
