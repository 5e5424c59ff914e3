package fault_test

import (
	"fmt"
	"math"
	"slices"
	"testing"

	"standish/api"
	"standish/fault"
)

func ExampleTrip() {
	code, numbers := fault.Trip(api.ErrFull, 3, 7)
	fmt.Println(code == api.ErrFull, numbers)
	code, numbers = fault.Trip(api.OK, 1)
	fmt.Println(code == api.OK, len(numbers))
	// Output:
	// true [7 3]
	// true 0
}

func ExampleAsks() {
	fmt.Println(fault.Asks(api.ErrArg, api.ErrFull))
	fmt.Println(fault.Asks(api.ErrArg, api.ErrArg, 3, 7))
	// Output:
	// false
	// true
}

// codes are all codes that api names but OK, and numbers that name no error.
func codes() []api.Errno {
	return []api.Errno{
		api.ErrForm, api.ErrArg, api.ErrFull, api.ErrNone, api.ErrSyntax, api.ErrDeep, api.ErrKey, api.ErrNil,
		9, 99, -1, -5, math.MaxInt, math.MinInt,
	}
}

// roads hold, among others, numbers that are equal, that are no more than codes of errors are, and that stand at the bounds.
func roads() [][]int {
	return [][]int{
		nil, {}, {0}, {3}, {3, 7}, {7, 3}, {-1, 0, 5, 5}, {0, 0, 0}, {5, 5, 5, 5},
		{1, 2, 3, 4, 5, 6, 7, 8}, {8, 7, 6, 5, 4, 3, 2, 1}, {math.MinInt, math.MaxInt, 0, math.MinInt},
	}
}

// everyError runs do on each code, wrapped by each road.
func everyError(do func(code api.Errno, road []int)) {
	for _, code := range codes() {
		for _, road := range roads() {
			do(code, road)
		}
	}
}

func reversed(road []int) []int {
	out := slices.Clone(road)
	slices.Reverse(out)
	return out
}

func TestP21Trip(t *testing.T) {
	everyError(func(code api.Errno, road []int) {
		got, numbers := fault.Trip(code, road...)
		if got != code || !slices.Equal(numbers, reversed(road)) {
			t.Errorf("Trip(%d, %v): %d, %v", code, road, got, numbers)
		}
	})
}

func TestP21TripOfOK(t *testing.T) {
	for _, road := range roads() {
		if code, numbers := fault.Trip(api.OK, road...); code != api.OK || len(numbers) != 0 {
			t.Errorf("Trip(OK, %v): %d, %v", road, code, numbers)
		}
	}
}

func TestP22Asks(t *testing.T) {
	everyError(func(code api.Errno, road []int) {
		for _, other := range codes() {
			if got := fault.Asks(code, other, road...); got != (other == code) {
				t.Errorf("Asks(%d, %d, %v): %v", code, other, road, got)
			}
		}
	})
}

func TestP22AsksOfOK(t *testing.T) {
	for _, road := range roads() {
		if fault.Asks(api.OK, api.OK, road...) {
			t.Errorf("Asks(OK, OK, %v): true", road)
		}
		for _, code := range codes() {
			if fault.Asks(api.OK, code, road...) {
				t.Errorf("Asks(OK, %d, %v): true", code, road)
			}
			if fault.Asks(code, api.OK, road...) {
				t.Errorf("Asks(%d, OK, %v): true", code, road)
			}
		}
	}
}

func TestP22Depth(t *testing.T) {
	everyError(func(code api.Errno, road []int) {
		if got := fault.Depth(code, road...); got != len(road) {
			t.Errorf("Depth(%d, %v): %d", code, road, got)
		}
	})
}

func TestP22DepthOfOK(t *testing.T) {
	for _, road := range roads() {
		if got := fault.Depth(api.OK, road...); got != 0 {
			t.Errorf("Depth(OK, %v): %d", road, got)
		}
	}
}

// TestP23 asks an error for all codes, and for the numbers of its wrappers, which are no codes of it.
func TestP23(t *testing.T) {
	everyError(func(code api.Errno, road []int) {
		found, _ := fault.Trip(code, road...)
		if found != code || !fault.Asks(code, found, road...) {
			t.Errorf("code %d with road %v: Trip finds %d, Asks does not find it", code, road, found)
		}
		others := append([]api.Errno{api.OK, code - 1, code + 1, -code}, codes()...)
		for _, number := range road {
			others = append(others, api.Errno(number))
		}
		for _, other := range others {
			if other != code && fault.Asks(code, other, road...) {
				t.Errorf("Asks(%d, %d, %v): true", code, other, road)
			}
		}
	})
}

func TestP23LongRoad(t *testing.T) {
	road := make([]int, 300000)
	for i := range road {
		road[i] = i * i
	}
	code, numbers := fault.Trip(api.ErrDeep, road...)
	if code != api.ErrDeep || !slices.Equal(numbers, reversed(road)) {
		t.Errorf("Trip of a long road: %d, %d numbers", code, len(numbers))
	}
	if got := fault.Depth(api.ErrDeep, road...); got != len(road) {
		t.Errorf("Depth of a long road: %d", got)
	}
	if !fault.Asks(api.ErrDeep, api.ErrDeep, road...) || fault.Asks(api.ErrDeep, api.ErrKey, road...) {
		t.Error("Asks of a long road does not find the code, or another one")
	}
}

// TestP21RoadStays is R4: neither road nor what stands behind it changes, by the calls or by what is done to their results.
func TestP21RoadStays(t *testing.T) {
	want := []int{4, 5, 6, 7}
	for length := range len(want) + 1 {
		whole := slices.Clone(want)
		road := whole[:length]
		_, first := fault.Trip(api.ErrArg, road...)
		_, second := fault.Trip(api.ErrArg, road...)
		fault.Asks(api.ErrArg, api.ErrArg, road...)
		fault.Depth(api.ErrArg, road...)
		first = first[:cap(first)]
		for i := range first {
			first[i] = -1
		}
		if !slices.Equal(whole, want) {
			t.Errorf("a road of %d numbers became %v", length, whole)
		}
		if !slices.Equal(second, reversed(want[:length])) {
			t.Errorf("two results of Trip share memory: %v", second)
		}
	}
}

// TestP21NothingIsKept is R5: a call returns the same, whatever was called before it.
func TestP21NothingIsKept(t *testing.T) {
	road := []int{1, 2}
	fault.Trip(api.ErrArg, road...)
	road[0], road[1] = 3, 4
	if code, numbers := fault.Trip(api.ErrFull, road...); code != api.ErrFull || !slices.Equal(numbers, []int{4, 3}) {
		t.Errorf("Trip after another Trip: %d, %v", code, numbers)
	}
	if code, numbers := fault.Trip(api.OK); code != api.OK || len(numbers) != 0 {
		t.Errorf("Trip of OK after another Trip: %d, %v", code, numbers)
	}
}
