"""What the tests share: words, lists that must not be changed, and pictures to try."""


def word(number):
    """A number as it is handed in: modulo 2^32."""
    return number % 2 ** 32


class Untouched(list):
    """A list that fails the test as soon as something changes it, for a while or for good."""

    def refuse(self, *args, **kwargs):
        raise AssertionError("a list that was handed in is changed")

    append = extend = insert = remove = pop = clear = sort = reverse = refuse
    __setitem__ = __delitem__ = __iadd__ = __imul__ = refuse


def pattern(count, step=7919):
    """Numbers below 2^16 that look mixed, the same every time."""
    return [(index * step + 40503) % 65536 for index in range(count)]


def spots(count, every=5):
    """Bytes, some of which tell a bad place."""
    return [(index * 37) % 256 if index % every == 2 else 0 for index in range(count)]


def places_of(numbers):
    """How many places w and h tell; lists longer than 5000 are not handed in, one more is enough to tell."""
    return min(numbers["w"] * numbers["h"], 5001)


def picture_of(numbers):
    """The list f that goes with these numbers."""
    return {"f": pattern(places_of(numbers))}


def assert_plain_answer(case, answer):
    """The answer is a list of whole numbers, none of them True or False."""
    case.assertIs(type(answer), list)
    for number in answer:
        case.assertIs(type(number), int)


def assert_same_twice(case, call, numbers, lists):
    """The call leaves its lists alone, and answers the same again, whatever became of its first answer."""
    handed = [Untouched(values) for values in lists]
    first = call(*numbers, *handed)
    kept = list(first)
    first.clear()
    case.assertEqual(call(*numbers, *handed), kept)
    case.assertEqual([list(values) for values in handed], [list(values) for values in lists])
    case.assertEqual(call(*numbers, *[list(values) for values in lists]), kept)
    return kept


def told(*lists):
    """An answer: 0, and each list behind how many numbers it has."""
    return [0] + [number for values in lists for number in [len(values), *values]]


def assert_range(case, call, base, name, least, most, lists_of, longest):
    """The ends of a number's range are taken; what is just beyond is refused, with lists and without."""
    for value in (least, most):
        numbers = dict(base, **{name: word(value)})
        answer = call(**numbers, **lists_of(numbers))
        case.assertEqual(answer[0], 0, (name, value))
        assert_plain_answer(case, answer)
    for value in (least - 1, most + 1, 2 ** 31 - 1, 2 ** 31):
        numbers = dict(base, **{name: word(value)})
        full = lists_of(numbers)
        empty = {key: [] for key in full}
        case.assertEqual(call(**numbers, **empty), [-2], (name, value, "empty lists"))
        if all(len(values) <= longest for values in full.values()):
            case.assertEqual(call(**numbers, **full), [-2], (name, value, "full lists"))


def assert_ranges(case, call, base, ranges, lists_of, longest=5000):
    """Each number of a call in turn, by its name, the others as in base."""
    for name, (least, most) in ranges.items():
        with case.subTest(name=name):
            assert_range(case, call, base, name, least, most, lists_of, longest)
