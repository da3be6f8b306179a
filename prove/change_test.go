package prove_test

import (
	"fmt"
	"reflect"
)

// eachChange gives out a change of each number, text, bool and list of a value.
func eachChange(v reflect.Value, give func(path string, change func(reflect.Value))) {
	switch v.Kind() {
	case reflect.Struct:
		for i := range v.NumField() {
			eachChange(v.Field(i), func(path string, change func(reflect.Value)) {
				give(v.Type().Field(i).Name+"."+path, func(v reflect.Value) { change(v.Field(i)) })
			})
		}
	case reflect.Slice:
		for i := range v.Len() {
			eachChange(v.Index(i), func(path string, change func(reflect.Value)) {
				give(fmt.Sprint(i, ".", path), func(v reflect.Value) {
					if i < v.Len() { // it may have been changed before
						change(v.Index(i))
					}
				})
			})
		}
		give("more", func(v reflect.Value) { v.Set(reflect.Append(v, reflect.Zero(v.Type().Elem()))) })
		if v.Len() > 0 {
			give("less", func(v reflect.Value) {
				if v.Len() > 0 {
					v.Set(v.Slice(0, v.Len()-1))
				}
			})
		}
	case reflect.Int:
		for _, n := range []int{v.Interface().(int) + 1, v.Interface().(int) - 1, least, most, 8} {
			if n != v.Interface().(int) {
				give(fmt.Sprint("int ", n), func(v reflect.Value) { v.SetInt(int64(n)) })
			}
		}
	case reflect.String:
		for _, s := range []string{"", "at", "A", "\xff", "abcdefghijklm"} {
			give("string "+s, func(v reflect.Value) { v.SetString(s) })
		}
	case reflect.Bool:
		give("bool", func(v reflect.Value) { v.SetBool(!v.Bool()) })
	}
}

// spoil writes over all numbers and bools of lists.
func spoil(v reflect.Value) {
	switch v.Kind() {
	case reflect.Interface:
		spoil(v.Elem())
	case reflect.Pointer:
		spoil(v.Elem())
	case reflect.Struct:
		for i := range v.NumField() {
			spoil(v.Field(i))
		}
	case reflect.Slice:
		for i := range v.Len() {
			spoil(v.Index(i))
		}
		if v.Cap() > v.Len() && !v.IsNil() {
			spoil(v.Slice(0, v.Cap()).Index(v.Len()))
		}
	case reflect.Int:
		if v.CanSet() {
			v.SetInt(77)
		}
	case reflect.Bool:
		if v.CanSet() {
			v.SetBool(!v.Bool())
		}
	}
}
