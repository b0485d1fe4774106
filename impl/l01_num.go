package impl

// octet is eight bits wide, so that its sums, differences and shifts go round by themselves.
type octet uint8

func (o octet) plus(other octet) (octet, bool) {
	sum := o + other
	// A sum that went round is less than either side of it.
	return sum, sum < o
}

func (o octet) minus(other octet) (octet, bool) {
	return o - other, o < other
}

func (o octet) left() (octet, bool) {
	return o<<1 | o>>7, o > 127
}

func (o octet) right() (octet, bool) {
	return o>>1 | o<<7, o%2 == 1
}

func ByteOk(n int64) bool { return n >= 0 && n <= 255 }

func AddByte(a int64, b int64) (int64, bool) {
	if !ByteOk(a) || !ByteOk(b) {
		return 0, false
	}
	return joined(octet(a).plus, octet(b))
}

func SubByte(a int64, b int64) (int64, bool) {
	if !ByteOk(a) || !ByteOk(b) {
		return 0, false
	}
	return joined(octet(a).minus, octet(b))
}

func TurnedLeft(a int64) (int64, bool) {
	if !ByteOk(a) {
		return 0, false
	}
	return turned(octet(a).left)
}

func TurnedRight(a int64) (int64, bool) {
	if !ByteOk(a) {
		return 0, false
	}
	return turned(octet(a).right)
}

func joined(join func(octet) (octet, bool), other octet) (int64, bool) {
	result, carry := join(other)
	return int64(result), carry
}

func turned(turn func() (octet, bool)) (int64, bool) {
	result, carry := turn()
	return int64(result), carry
}
