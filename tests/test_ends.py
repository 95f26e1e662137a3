"""Promise 2: sm_ends."""

import unittest

from picturestack.pictures import sm_ends
from tests.support import assert_plain_answer, assert_ranges, assert_same_twice, pattern, told


def ends_by_pictures(n, x):
    """Picture by picture, each place held against the ends so far."""
    least, greatest = list(x[:n]), list(x[:n])
    for index, number in enumerate(x):
        place = index % n
        least[place] = number if number < least[place] else least[place]
        greatest[place] = number if number > greatest[place] else greatest[place]
    return told(least, greatest)


class Ordinary(unittest.TestCase):
    def test_unlike_pictures(self):
        self.assertEqual(sm_ends(3, [5, 60, 700, 9, 20, 800, 7, 40, 100]), told([5, 20, 100], [9, 60, 800]))

    def test_two_pictures(self):
        self.assertEqual(sm_ends(2, [1, 9, 8, 2]), told([1, 2], [8, 9]))

    def test_many_sizes(self):
        for n, k in [(1, 2), (2, 1), (5, 3), (64, 16), (17, 9)]:
            x = pattern(n * k)
            self.assertEqual(sm_ends(n, x), ends_by_pictures(n, x), (n, k))

    def test_the_form_of_the_answer(self):
        got = sm_ends(5, pattern(15))
        self.assertEqual(len(got), 1 + 2 * (1 + 5))
        self.assertEqual([got[0], got[1], got[7]], [0, 5, 5])
        assert_plain_answer(self, got)


class Edges(unittest.TestCase):
    def test_alike_pictures(self):
        f = pattern(12)
        for k in (1, 2, 16):
            self.assertEqual(sm_ends(12, f * k), told(f, f))

    def test_the_ends_of_numbers(self):
        self.assertEqual(sm_ends(2, [0, 65535, 65535, 0]), told([0, 0], [65535, 65535]))
        self.assertEqual(sm_ends(2, [0, 65535, 0, 65535]), told([0, 65535], [0, 65535]))
        self.assertEqual(sm_ends(1, [0]), told([0], [0]))
        self.assertEqual(sm_ends(1, [65535]), told([65535], [65535]))

    def test_sixteen_pictures(self):
        for where in range(16):
            numbers = [50] * 16
            numbers[where] = 3
            self.assertEqual(sm_ends(1, numbers), told([3], [50]))
            numbers[where] = 99
            self.assertEqual(sm_ends(1, numbers), told([50], [99]))

    def test_one_picture(self):
        for n in (1, 2, 4096):
            f = pattern(n)
            self.assertEqual(sm_ends(n, f), told(f, f))

    def test_the_longest_lists(self):
        for n, k in [(4096, 14), (3812, 16)]:
            x = pattern(n * k)
            self.assertEqual(sm_ends(n, x), ends_by_pictures(n, x))


class WrongInputs(unittest.TestCase):
    @staticmethod
    def lists_of(numbers):
        # Lists longer than 61000 are not handed in: one number more is enough to tell.
        return {"x": pattern(min(14 * numbers["n"], 61001))}

    def test_the_range_of_n(self):
        assert_ranges(self, sm_ends, {"n": 3}, {"n": (1, 4096)}, self.lists_of, 61000)

    def test_how_many_pictures(self):
        for n in (1, 3, 3588):
            self.assertEqual(sm_ends(n, []), [-2])
            self.assertEqual(sm_ends(n, pattern(n))[0], 0)
            self.assertEqual(sm_ends(n, pattern(n * 16))[0], 0)
            self.assertEqual(sm_ends(n, pattern(n * 17)), [-2])
        self.assertEqual(sm_ends(4096, []), [-2])
        self.assertEqual(sm_ends(1, pattern(61000)), [-2])

    def test_no_places(self):
        self.assertEqual(sm_ends(0, []), [-2])

    def test_too_many_places(self):
        for k in (0, 1, 14):
            self.assertEqual(sm_ends(4097, pattern(4097 * k)), [-2])
        self.assertEqual(sm_ends(61000, pattern(61000)), [-2])
        self.assertEqual(sm_ends(4294967295, []), [-2])


class StandsAlone(unittest.TestCase):
    def test_nothing_is_changed_or_kept(self):
        kept = assert_same_twice(self, sm_ends, [5], [pattern(45)])
        sm_ends(9, pattern(45))
        sm_ends(4097, [])
        self.assertEqual(assert_same_twice(self, sm_ends, [5], [pattern(45)]), kept)

    def test_one_place_and_one_picture(self):
        assert_same_twice(self, sm_ends, [1], [pattern(16)])
        assert_same_twice(self, sm_ends, [16], [pattern(16)])

    def test_a_refusal_is_the_same_twice(self):
        self.assertEqual(assert_same_twice(self, sm_ends, [1], [pattern(17)]), [-2])


if __name__ == "__main__":
    unittest.main()
