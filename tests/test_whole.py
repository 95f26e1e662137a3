"""The whole program: what it stands for, and what holds of every call."""

import itertools
import unittest

from picturestack import pictures
from picturestack.pictures import sm_drop, sm_ends, sm_finish, sm_gain, sm_less, sm_level, sm_move, sm_place, sm_stack
from tests.support import assert_plain_answer, assert_same_twice, pattern, spots, told, word
from tests.test_drop import drop_by_64ths
from tests.test_finish import finish_by_fractions
from tests.test_gain import gain_by_fractions
from tests.test_level import level_by_fractions
from tests.test_move import moved_by_rows
from tests.test_place import between_by_fractions
from tests.test_stack import summed_by_fractions

ONE = 16384
SIZES = [(1, 1), (1, 64), (64, 1), (2, 2), (5, 3), (17, 31), (64, 64)]
TURN, MOVE, SIDE = (-65536, 65536), (-8192, 8192), (1, 64)

# Of each call its numbers with their ranges, and its lists with the greatest number that each may hold.
RANGES = {
    "sm_place": {"a": TURN, "b": TURN, "c": MOVE, "d": MOVE, "u1": SIDE, "v1": SIDE, "w": SIDE, "h": SIDE},
    "sm_move": {"dx": MOVE, "dy": MOVE, "w": SIDE, "h": SIDE},
    "sm_stack": {"n": (1, 4096), "least": (0, 65535), "q": (0, 256)},
    "sm_ends": {"n": (1, 4096)},
    "sm_drop": {
        "s": (1, 4), "p": (1, 64), "dx": MOVE, "dy": MOVE, "u1": SIDE, "v1": SIDE, "w": SIDE, "h": SIDE,
    },
    "sm_finish": {},
    "sm_level": {"g": (0, 2 ** 24), "o": (-65536, 65536)},
    "sm_gain": {},
    "sm_less": {},
}
LISTS = {
    "sm_place": {"f": 65535, "bad": 255},
    "sm_move": {"f": 65535},
    "sm_stack": {"x": 65535, "cover": 65535},
    "sm_ends": {"x": 65535},
    "sm_drop": {"f": 65535},
    "sm_finish": {"sums": 2 ** 64 - 1, "much": 2 ** 32 - 1},
    "sm_level": {"l": 65535},
    "sm_gain": {"a": 65535, "b": 65535},
    "sm_less": {"a": 65535, "b": 65535},
}


def called(name, numbers, lists):
    """The call by its name, with numbers as they are meant."""
    words = {key: word(value) for key, value in numbers.items()}
    return getattr(pictures, name)(**words, **lists)


def all_ends(ranges):
    """Every choice of the least and the greatest of each number, as dicts."""
    return [dict(zip(ranges, values)) for values in itertools.product(*ranges.values())]


def lengths_of(numbers):
    """How long the lists of a call may be: the least and the most."""
    if "w" in numbers:
        return [numbers["w"] * numbers["h"]]
    if "n" in numbers:
        return [numbers["n"], min(16 * numbers["n"], 61000 - 61000 % max(1, numbers["n"]))]
    return [0, 1, 4096]


def cases_at_ends(name):
    """Each number at an end of its range, the lists as short and as long as may be, filled with 0 and the greatest."""
    for numbers in all_ends(RANGES[name]):
        for length in lengths_of(numbers):
            for fills in itertools.product(*[(0, most) for most in LISTS[name].values()]):
                yield numbers, {key: [fill] * length for key, fill in zip(LISTS[name], fills)}


def lists_told(name, numbers):
    """How many lists stand behind how many numbers they have, and how many numbers that is; none at other calls."""
    if name in ("sm_place", "sm_drop"):
        return 2, numbers["u1"] * numbers["v1"]
    if name in ("sm_stack", "sm_ends"):
        return (3 if name == "sm_stack" else 2), numbers["n"]
    return 0, 0


def assert_form(case, name, numbers, lists, answer):
    """0, then what the call answers, as long as it is to be, with no number below 0 or above a word."""
    assert_plain_answer(case, answer)
    case.assertEqual(answer[0], 0)
    case.assertGreaterEqual(min(answer), 0)
    case.assertLess(max(answer), 2 ** 32)
    many, count = lists_told(name, numbers)
    if many:
        case.assertEqual(len(answer), 1 + many * (1 + count))
        case.assertEqual(answer[1::1 + count], [count] * many)
    else:
        case.assertEqual(len(answer), 2 if name == "sm_gain" else 1 + len(list(lists.values())[0]))


def parted(answer, many):
    """The lists that are told behind how many numbers they have."""
    count = answer[1]
    return [answer[2 + part * (1 + count):2 + part * (1 + count) + count] for part in range(many)]


class NotMoved(unittest.TestCase):
    """Not moved a picture stays as it is."""

    def test_placed(self):
        for w, h in SIZES:
            f = pattern(w * h)
            self.assertEqual(sm_place(ONE, 0, 0, 0, w, h, w, h, f, [0] * (w * h)), told(f, [4096] * (w * h)))

    def test_placed_with_bad_places(self):
        # The places that aren't bad stay as they are, whatever lies beside them.
        for w, h in SIZES:
            f, bad = pattern(w * h), spots(w * h)
            numbers = [0 if spot else number for number, spot in zip(f, bad)]
            covers = [0 if spot else 4096 for spot in bad]
            self.assertEqual(sm_place(ONE, 0, 0, 0, w, h, w, h, f, bad), told(numbers, covers))

    def test_moved(self):
        for w, h in SIZES:
            f = pattern(w * h)
            self.assertEqual(sm_move(0, 0, w, h, f), [0] + f)

    def test_dropped_and_finished(self):
        for w, h in SIZES:
            f = pattern(w * h)
            for p in (1, 32, 63, 64):
                sums, much = parted(sm_drop(1, p, 0, 0, w, h, w, h, f), 2)
                self.assertEqual(sm_finish(sums, much), [0] + f)

    def test_levelled(self):
        for w, h in SIZES:
            f = pattern(w * h)
            self.assertEqual(sm_level(sm_gain(f, f)[1], 0, f), [0] + f)
            self.assertEqual(sm_less(f, f), [0] * (w * h + 1))


class Between(unittest.TestCase):
    """What's between is no more than the greatest."""

    CARRIED = [
        (ONE, 0, 31, 17), (11585, 11585, 40, -9), (9000, -2000, -33, 65), (-16000, 3527, 999, 700), (1, 1, 64, 64),
    ]

    def test_in_many_pictures(self):
        for w, h in SIZES:
            for f in (pattern(w * h), [number % 2 * 65535 for number in pattern(w * h)], [1000] * (w * h)):
                for bad in ([0] * (w * h), spots(w * h)):
                    for a, b, c, d in self.CARRIED:
                        answer = sm_place(word(a), word(b), word(c), word(d), 20, 19, w, h, f, bad)
                        numbers, covers = parted(answer, 2)
                        seen = [number for number, cover in zip(numbers, covers) if cover > 0]
                        good = [number for number, spot in zip(f, bad) if spot == 0]
                        self.assertLessEqual(max(numbers), max(good, default=0))
                        self.assertGreaterEqual(min(seen, default=65535), min(good, default=0))

    def test_between_its_own_four(self):
        # A step from dark to bright: half a place on, the darkest stays and the brightest isn't passed.
        for w in (2, 5, 64):
            f = [60000 if column >= w // 2 else 7 for column in range(w)]
            numbers = parted(sm_place(ONE, 0, 32, 0, w, 1, w, 1, f, [0] * w), 2)[0]
            for number, left, right in zip(numbers, f, f[1:] + f[-1:]):
                self.assertTrue(min(left, right) <= number <= max(left, right))

    def test_summed_within_the_ends(self):
        for n, k in [(1, 16), (40, 5), (300, 2), (4096, 3)]:
            x, cover = pattern(n * k), [1 + number % 4096 for number in pattern(n * k, 31)]
            least, greatest = parted(sm_ends(n, x), 2)
            for q in (0, 6, 256):
                for number, low, high in zip(parted(sm_stack(n, 0, q, x, cover), 3)[0], least, greatest):
                    self.assertTrue(low <= number <= high)


class Alike(unittest.TestCase):
    """Alike pictures summed are as they were."""

    def test_summed(self):
        for w, h in SIZES:
            n = w * h
            f, cover = pattern(n), [1 + number % 65535 for number in pattern(n, 31)]
            for k in (1, 2, 3, 14):
                for q in (0, 4, 256):
                    together = [k * one for one in cover]
                    self.assertEqual(sm_stack(n, 0, q, f * k, cover * k), told(f, [k] * n, together))
                self.assertEqual(sm_ends(n, f * k), told(f, f))

    def test_summed_after_they_were_placed(self):
        for w, h in SIZES:
            n = w * h
            f = pattern(n)
            numbers, covers = parted(sm_place(ONE, 0, 0, 0, w, h, w, h, f, [0] * n), 2)
            summed = parted(sm_stack(n, 4096, 4, numbers * 3, covers * 3), 3)[0]
            self.assertEqual(sm_less(summed, f), [0] * (n + 1))


class Dropped(unittest.TestCase):
    """Dropped, no light is lost."""

    def test_onto_a_grid_that_holds_it(self):
        for w, h in [size for size in SIZES if max(size) <= 16] + [(16, 16), (1, 16), (16, 1)]:
            f = pattern(w * h)
            for s, p in itertools.product((1, 2, 3, 4), (1, 7, 32, 63, 64)):
                sums, much = parted(sm_drop(s, p, 0, 0, s * w, s * h, w, h, f), 2)
                self.assertEqual(sum(sums), sum(f) * (p * s) ** 2)
                self.assertEqual(sum(much), w * h * (p * s) ** 2)

    def test_moved_on_a_larger_grid(self):
        for w, h in [(1, 1), (5, 3), (17, 31), (62, 61)]:
            f = pattern(w * h)
            for p, dx, dy in itertools.product((1, 33, 64), (0, 1, 45, 128), (0, 63, 64)):
                sums, much = parted(sm_drop(1, p, dx, dy, 64, 64, w, h, f), 2)
                self.assertEqual(sum(sums), sum(f) * p ** 2)
                self.assertEqual(sum(much), w * h * p ** 2)

    def test_the_largest_on_its_own_grid(self):
        f = pattern(4096)
        for p in (1, 64):
            sums, much = parted(sm_drop(1, p, 0, 0, 64, 64, 64, 64, f), 2)
            self.assertEqual([sum(sums), sum(much)], [sum(f) * p ** 2, 4096 * p ** 2])


class AtTheEnds(unittest.TestCase):
    """Every call with all its numbers at the ends of their ranges."""

    def assert_at_ends(self, name, check):
        for numbers, lists in cases_at_ends(name):
            answer = called(name, numbers, lists)
            assert_form(self, name, numbers, lists, answer)
            check(numbers, lists, answer)

    def check_place(self, numbers, lists, answer):
        found = list(zip(*parted(answer, 2)))
        a, b, c, d, u1, v1, w, h = numbers.values()
        rows, bad_rows = [[values[w * r:w * r + w] for r in range(h)] for values in lists.values()]
        # Few places are covered at all, so some of these are tried besides the corners.
        covered = [index for index, (number, cover) in enumerate(found) if cover > 0]
        for index in {0, u1 - 1, u1 * v1 - u1, u1 * v1 - 1, *covered[:3], *covered[-3:]}:
            x, y = 64 * (index % u1) + 32, 64 * (index // u1) + 32
            at = ((a * x - b * y) // ONE + c, (b * x + a * y) // ONE + d)
            self.assertEqual(found[index], between_by_fractions(*at, rows, bad_rows))

    def test_place(self):
        self.assert_at_ends("sm_place", self.check_place)

    def test_move(self):
        def check(numbers, lists, answer):
            self.assertEqual(answer, moved_by_rows(*numbers.values(), lists["f"]))
        self.assert_at_ends("sm_move", check)

    def test_stack(self):
        def check(numbers, lists, answer):
            # All places are alike here.
            n, least, q = numbers.values()
            one = summed_by_fractions(least, q, lists["x"][::n], lists["cover"][::n])
            self.assertEqual(answer, told(*[[part] * n for part in one]))
        self.assert_at_ends("sm_stack", check)

    def test_ends(self):
        def check(numbers, lists, answer):
            ends = [lists["x"][0]] * numbers["n"]
            self.assertEqual(answer, told(ends, ends))
        self.assert_at_ends("sm_ends", check)

    def test_drop(self):
        def check(numbers, lists, answer):
            self.assertEqual(answer, drop_by_64ths(*numbers.values(), lists["f"]))
        self.assert_at_ends("sm_drop", check)

    def test_finish(self):
        def check(numbers, lists, answer):
            self.assertEqual(answer, finish_by_fractions(**lists))
        self.assert_at_ends("sm_finish", check)

    def test_level(self):
        def check(numbers, lists, answer):
            self.assertEqual(answer, level_by_fractions(**numbers, **lists))
        self.assert_at_ends("sm_level", check)

    def test_gain(self):
        def check(numbers, lists, answer):
            self.assertEqual(answer, gain_by_fractions(**lists))
        self.assert_at_ends("sm_gain", check)

    def test_less(self):
        def check(numbers, lists, answer):
            self.assertEqual(answer, [0] + [word(one - other) for one, other in zip(*lists.values())])
        self.assert_at_ends("sm_less", check)


class Refused(unittest.TestCase):
    """A refusal is -2 alone."""

    def test_one_number_beyond_and_the_others_at_the_ends(self):
        for name, ranges in RANGES.items():
            for numbers in all_ends(ranges):
                for key, (least, most) in ranges.items():
                    for value in (least - 1, most + 1):
                        wrong = dict(numbers, **{key: value})
                        with self.subTest(name=name, **wrong):
                            self.assertEqual(called(name, wrong, {one: [] for one in LISTS[name]}), [-2])

    def test_one_number_beyond_with_lists(self):
        for name, ranges in RANGES.items():
            for numbers in all_ends(ranges):
                for key, (least, most) in ranges.items():
                    for value in (word(least - 1), word(most + 1)):
                        self.assert_refused_with_lists(name, dict(numbers, **{key: value}))

    def assert_refused_with_lists(self, name, numbers):
        for length in lengths_of(numbers):
            # Longer ones are not handed in.
            if length <= 5000:
                with self.subTest(name=name, length=length, **numbers):
                    self.assertEqual(called(name, numbers, {one: [1] * length for one in LISTS[name]}), [-2])

    def test_all_numbers_beyond(self):
        for name, ranges in RANGES.items():
            for beyond in all_ends({key: (least - 1, most + 1) for key, (least, most) in ranges.items()}):
                if ranges:
                    self.assertEqual(called(name, beyond, {one: [] for one in LISTS[name]}), [-2])

    def test_lists_that_are_too_long(self):
        for name in ("sm_finish", "sm_level", "sm_gain", "sm_less"):
            for numbers in all_ends(RANGES[name]):
                for length in (4097, 5000):
                    self.assertEqual(called(name, numbers, {one: [1] * length for one in LISTS[name]}), [-2])
        for name in ("sm_stack", "sm_ends"):
            for numbers in all_ends(dict(RANGES[name], n=(1, 3588))):
                for length in (0, 17 * numbers["n"]):
                    self.assertEqual(called(name, numbers, {one: [1] * length for one in LISTS[name]}), [-2])


class StandsAlone(unittest.TestCase):
    """What is handed in stays as it was, and a call made twice answers the same both times."""

    CASES = {
        "sm_place": ([16000, word(-3527), 77, word(-40), 9, 8, 7, 6], [pattern(42), spots(42)]),
        "sm_move": ([2, word(-1), 7, 6], [pattern(42)]),
        "sm_stack": ([6, 9000, 7], [pattern(42), pattern(42, 31)]),
        "sm_ends": ([6], [pattern(42)]),
        "sm_drop": ([3, 50, word(-70), 41, 10, 11, 7, 6], [pattern(42)]),
        "sm_finish": ([], [[one ** 4 for one in pattern(42)], pattern(42, 31)]),
        "sm_level": ([5000, word(-999)], [pattern(42)]),
        "sm_gain": ([], [pattern(42), pattern(42, 31)]),
        "sm_less": ([], [pattern(42), pattern(42, 31)]),
    }

    def test_every_call(self):
        self.assertEqual(sorted(self.CASES), sorted(RANGES))
        for name, (numbers, lists) in self.CASES.items():
            with self.subTest(name=name):
                kept = assert_same_twice(self, getattr(pictures, name), numbers, lists)
                meant = dict(zip(RANGES[name], numbers))
                assert_form(self, name, meant, dict(zip(LISTS[name], lists)), kept)

    def test_whatever_came_between(self):
        first = {name: getattr(pictures, name)(*numbers, *lists) for name, (numbers, lists) in self.CASES.items()}
        for name in reversed(self.CASES):
            for other, (numbers, lists) in self.CASES.items():
                getattr(pictures, other)(*numbers, *lists)
            numbers, lists = self.CASES[name]
            self.assertEqual(getattr(pictures, name)(*numbers, *lists), first[name])

    def test_the_ends_twice(self):
        for name, ranges in RANGES.items():
            for end in (0, 1):
                numbers = [word(both[end]) for both in ranges.values()]
                length = lengths_of({key: both[end] for key, both in ranges.items()})[-1]
                lists = [[most] * length for most in LISTS[name].values()]
                with self.subTest(name=name, end=end):
                    self.assertEqual(assert_same_twice(self, getattr(pictures, name), numbers, lists)[0], 0)

    def test_answers_share_nothing_with_what_is_handed_in(self):
        for name, (numbers, lists) in self.CASES.items():
            handed = [list(values) for values in lists]
            answer = getattr(pictures, name)(*numbers, *handed)
            answer[:] = [0] * len(answer)
            self.assertEqual(handed, lists)


if __name__ == "__main__":
    unittest.main()
