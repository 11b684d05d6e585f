// Package lists has what is done with lists of any kind.
package lists

// Each is a new list of what one makes of each element, in order; nil, if list is.
func Each[T, U any](list []T, one func(T) U) []U {
	if list == nil {
		return nil
	}
	made := make([]U, len(list))
	for i := range list {
		made[i] = one(list[i])
	}
	return made
}
