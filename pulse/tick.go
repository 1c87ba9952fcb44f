package pulse

import "workcell/api"

// down: so many bits above that of an axis stands the one that it steps downwards.
const down = 3

// allBits of a pulse.
const allBits = 1<<(2*down) - 1

// pulseOf the steps of a tick, no more than one of each axis.
func pulseOf(steps [3]int) api.Pulse {
	pulse := 0
	for i, n := range steps {
		if n != 0 {
			pulse |= 1 << i
		}
		if n < 0 {
			pulse |= 1 << (i + down)
		}
	}
	return pulse
}

// stepsOf a pulse.
func stepsOf(pulse api.Pulse) [3]int {
	var steps [3]int
	for i := range steps {
		steps[i] = pulse>>i&1 - 2*(pulse>>(i+down)&1)
	}
	return steps
}

// isPulse: has it the bits of a pulse alone, and none for downwards where no step is?
func isPulse(pulse api.Pulse) bool {
	return 0 <= pulse && pulse <= allBits && pulse>>down&^pulse == 0
}

// refusal: what is wrong with pulses?
func refusal(l []api.Pulse) api.Errno {
	if len(l) > api.MaxRamp {
		return api.ErrCount
	}
	for _, pulse := range l {
		if !isPulse(pulse) {
			return api.ErrForm
		}
	}
	return api.OK
}

// walk along pulses, from 0, 0, 0 on; take is told where each of them leads.
func walk(l []api.Pulse, take func(at [3]int)) {
	var at [3]int
	for _, pulse := range l {
		for i, n := range stepsOf(pulse) {
			at[i] += n
		}
		take(at)
	}
}
