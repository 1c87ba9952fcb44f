// Package unit: quantities.
package unit

import (
	"strconv"

	"workcell/api"
)

// mostParts: in how many parts a total may come at most.
const mostParts = 1000

// leastUnits: how each kind's least unit is called.
var leastUnits = [...]string{
	api.Number: "",
	api.Volume: "nl",
	api.Length: "um",
	api.Heat:   "mK",
	api.Time:   "ms",
	api.Turns:  "rpm",
}

// May such a quantity be?
func May(q api.Quantity) bool { return refusal(q) == api.OK }

// Show a quantity.
func Show(q api.Quantity) (string, api.Errno) {
	if e := refusal(q); e != api.OK {
		return "", e
	}
	return strconv.Itoa(q.Value) + leastUnits[q.Kind], api.OK
}

// Add two quantities.
func Add(a, b api.Quantity) (api.Quantity, api.Errno) {
	if e := refusal(a, b); e != api.OK {
		return api.Quantity{}, e
	}
	if a.Kind != b.Kind {
		return api.Quantity{}, api.ErrKind
	}
	return quantity(a.Kind, a.Value+b.Value)
}

// Times: their product.
func Times(a, b api.Quantity) (api.Quantity, api.Errno) {
	if e := refusal(a, b); e != api.OK {
		return api.Quantity{}, e
	}
	// Two values within MaxValue have a product that fits, so it is judged after it is made.
	product := a.Value * b.Value
	switch {
	case a.Kind == api.Number:
		return quantity(b.Kind, product)
	case b.Kind == api.Number:
		return quantity(a.Kind, product)
	}
	return api.Quantity{}, api.ErrKind
}

// Over: their quotient.
func Over(a, b api.Quantity) (api.Quantity, api.Errno) {
	if e := refusal(a, b); e != api.OK {
		return api.Quantity{}, e
	}
	kind := a.Kind
	switch b.Kind {
	case api.Number:
	case a.Kind:
		kind = api.Number
	default:
		return api.Quantity{}, api.ErrKind
	}
	if b.Value == 0 {
		return api.Quantity{}, api.ErrNone
	}
	return quantity(kind, a.Value/b.Value)
}

// Parts of a total.
func Parts(total, most int) ([]int, api.Errno) {
	if total < 0 || total > api.MaxValue || most < 1 || most > api.MaxValue {
		return nil, api.ErrRange
	}
	if total == 0 {
		return nil, api.OK
	}
	count := (total + most - 1) / most
	if count > mostParts {
		return nil, api.ErrCount
	}
	parts := make([]int, count)
	for i := range parts {
		parts[i] = total / count
		if i < total%count {
			parts[i]++
		}
	}
	return parts, api.OK
}

// refusal tells what is wrong with the first of the quantities that may not be.
func refusal(quantities ...api.Quantity) api.Errno {
	for _, q := range quantities {
		if q.Kind < api.Number || q.Kind > api.Turns {
			return api.ErrKind
		}
		if q.Value < -api.MaxValue || q.Value > api.MaxValue {
			return api.ErrRange
		}
	}
	return api.OK
}

// quantity of a kind and a value, unless it may not be.
func quantity(kind, value int) (api.Quantity, api.Errno) {
	q := api.Quantity{Kind: kind, Value: value}
	if e := refusal(q); e != api.OK {
		return api.Quantity{}, e
	}
	return q, api.OK
}
