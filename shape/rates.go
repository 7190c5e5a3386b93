package shape

import "pianola/api"

// right tells whether a tag of the table may have these parameters.
func right(tag api.Tag, params ...int) bool {
	switch tag {
	case api.Filter:
		return within(len(params), api.MaxParams)
	case api.Up, api.Down, api.Drop:
		return len(params) == 1 && within(params[0], api.MaxRate)
	case api.Add, api.Copy:
		return len(params) == 1 && within(params[0], api.MaxPorts)
	case api.Weave, api.Unweave:
		return len(params) == 2 && woven(params[0], params[1])
	case api.Tick:
		return len(params) == 2
	}
	return len(params) == 0
}

func within(n, most int) bool { return n >= 1 && n <= most }

// woven asks for the two numbers first: only then their product is sure to fit.
func woven(n, m int) bool {
	return within(n, api.MaxPorts) && within(m, api.MaxRate) && n*m <= api.MaxRate
}

// rates are those of the in-ports and of the out-ports; the parameters are right.
func rates(tag api.Tag, params ...int) (ins, outs []int) {
	switch tag {
	case api.Up:
		return ports(1), ports(params[0])
	case api.Down:
		return ports(params[0]), ports(1)
	case api.Weave:
		return alike(params[0], params[1]), ports(params[0] * params[1])
	case api.Unweave:
		return ports(params[0] * params[1]), alike(params[0], params[1])
	case api.Add:
		return alike(params[0], 1), ports(1)
	case api.Quot:
		return ports(1, 1), ports(1)
	case api.Copy:
		return ports(1), alike(params[0], 1)
	case api.Tick:
		return ports(), ports(1)
	case api.Drop:
		return ports(params[0]), ports()
	}
	return ports(1), ports(1)
}

// ports are a side's rates, in new memory.
func ports(rates ...int) []int { return append([]int(nil), rates...) }

// alike are a side's rates, if its n ports have one rate.
func alike(n, rate int) []int {
	side := make([]int, n)
	for i := range side {
		side[i] = rate
	}
	return side
}
