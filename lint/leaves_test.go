package lint_test

import "reflect"

// eachLeaf visits everything in a value that can be changed, with the name of the field where it is.
func eachLeaf(v reflect.Value, field string, visit func(v reflect.Value, field string)) {
	if v.Kind() == reflect.Struct {
		for i := range v.NumField() {
			eachLeaf(v.Field(i), v.Type().Field(i).Name, visit)
		}
		return
	}
	visit(v, field)
	if v.Kind() == reflect.Slice {
		for i := range v.Len() {
			eachLeaf(v.Index(i), field, visit)
		}
	}
}

// copyOf returns a deep copy; all slices in it have the same spare capacity.
func copyOf[T any](x T, spare int) T {
	from, to := reflect.ValueOf(&x).Elem(), reflect.New(reflect.TypeOf(x)).Elem()
	copyInto(to, from, spare)
	return to.Interface().(T)
}

// copyInto copies a value and everything in it.
func copyInto(to, from reflect.Value, spare int) {
	switch from.Kind() {
	case reflect.Struct:
		for i := range from.NumField() {
			copyInto(to.Field(i), from.Field(i), spare)
		}
	case reflect.Slice:
		if from.Len() == 0 {
			return
		}
		to.Set(reflect.MakeSlice(from.Type(), from.Len(), from.Len()+spare))
		for i := range from.Len() {
			copyInto(to.Index(i), from.Index(i), spare)
		}
	default:
		to.Set(from)
	}
}
