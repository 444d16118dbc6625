package revive

import (
	"limekiln/api"
	"limekiln/super"
)

// Most is how many steps a recovery takes at most.
func Most(c api.Config) int {
	if !super.Right(c) {
		return 0
	}
	return 12*c.Slots + 4*c.Threads*c.Logs + 8*c.Threads + 4*c.Buckets + 40
}
