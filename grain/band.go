package grain

import (
	"spigot/api"
	"spigot/checked"
)

// whole is the number that a width is a part of.
const whole = 10000

type band struct{ low, high int }

// around takes a middle, a width and a tick that may be. Then none of its calls is refused: both ends are at most 2^41, and what Ceil answers is below 2^41, or the tick itself.
func around(middle, width, tick int) band {
	least, _ := checked.Up(middle, whole-width, whole)
	most, _ := checked.Down(middle, whole+width, whole)
	low, _ := Ceil(least, tick)
	high, _ := Floor(min(most, api.MaxPrice), tick)
	return band{low, high}
}

func (b band) inOrder() band {
	return band{min(b.low, b.high), max(b.low, b.high)}
}
