"""Promise 4: sm_gain."""

import unittest
from fractions import Fraction
from math import floor

from picturestack.pictures import sm_gain, sm_level
from tests.support import assert_plain_answer, assert_same_twice, pattern


def gain_by_fractions(a, b):
    if sum(b) == 0:
        return [0, 0]
    return [0, floor(4096 * Fraction(sum(a), sum(b)) + Fraction(1, 2)) % 2 ** 32]


class Ordinary(unittest.TestCase):
    def test_quotients(self):
        self.assertEqual(sm_gain([30, 60], [20, 40]), [0, 6144])
        self.assertEqual(sm_gain([1, 2, 3], [1, 2, 3]), [0, 4096])
        self.assertEqual(sm_gain([10], [40]), [0, 1024])
        self.assertEqual(sm_gain([0, 0, 5], [1, 0, 0]), [0, 20480])

    def test_all_together_and_not_one_by_one(self):
        # By each pair it would be 1 / 3 and 3 / 1; together it is 4 / 4.
        self.assertEqual(sm_gain([1, 3], [3, 1]), [0, 4096])
        self.assertEqual(sm_gain([7, 0, 0], [0, 3, 4]), [0, 4096])

    def test_the_nearest(self):
        # 4096 by 3 is 1365.33, 8192 by 3 is 2730.67.
        self.assertEqual(sm_gain([1], [3]), [0, 1365])
        self.assertEqual(sm_gain([2], [3]), [0, 2731])

    def test_against_fractions(self):
        for count in (1, 2, 5, 40, 1000):
            for step in (1, 31, 613):
                a = pattern(count)
                other = pattern(count, step)
                for b in (other, [number % 3 for number in other], [1] + [0] * (count - 1)):
                    self.assertEqual(sm_gain(a, b), gain_by_fractions(a, b))
                    self.assertEqual(sm_gain(b, a), gain_by_fractions(b, a))

    def test_it_is_the_gain_that_levels(self):
        b = [10, 200, 3000, 64]
        a = [3 * number for number in b]
        gain = sm_gain(a, b)
        self.assertEqual(gain, [0, 12288])
        self.assertEqual(sm_level(gain[1], 0, b), [0] + a)

    def test_the_form_of_the_answer(self):
        got = sm_gain(pattern(30), pattern(30, 31))
        self.assertEqual(len(got), 2)
        self.assertEqual(got[0], 0)
        assert_plain_answer(self, got)


class Edges(unittest.TestCase):
    def test_b_together_0(self):
        self.assertEqual(sm_gain([5], [0]), [0, 0])
        self.assertEqual(sm_gain([0, 0], [0, 0]), [0, 0])
        self.assertEqual(sm_gain([65535] * 4096, [0] * 4096), [0, 0])

    def test_no_numbers(self):
        self.assertEqual(sm_gain([], []), [0, 0])

    def test_a_together_0(self):
        self.assertEqual(sm_gain([0], [5]), [0, 0])
        self.assertEqual(sm_gain([0] * 4096, [65535] * 4096), [0, 0])

    def test_just_between_two_whole_numbers_is_the_greater(self):
        # 4096 by 8192 is a half, 3 times that one and a half.
        self.assertEqual(sm_gain([1], [8192]), [0, 1])
        self.assertEqual(sm_gain([3], [8192]), [0, 2])
        self.assertEqual(sm_gain([1, 4], [8000, 192]), [0, 3])
        self.assertEqual(sm_gain([1], [8191]), [0, 1])
        self.assertEqual(sm_gain([1], [8193]), [0, 0])
        self.assertEqual(sm_gain([8193], [8192]), [0, 4097])

    def test_modulo_2_32(self):
        # All a together is 2^20, one less and one more: 2^32 by 1 is 0.
        b = [1] + [0] * 16
        self.assertEqual(sm_gain([65535] * 16 + [16], b), [0, 0])
        self.assertEqual(sm_gain([65535] * 16 + [15], b), [0, 4294967296 - 4096])
        self.assertEqual(sm_gain([65535] * 16 + [17], b), [0, 4096])
        # Twice 2^20 by 2, and one more.
        self.assertEqual(sm_gain([65535] * 32 + [32], [2] + [0] * 32), [0, 0])
        self.assertEqual(sm_gain([65535] * 32 + [33], [2] + [0] * 32), [0, 2048])
        # 3 times 2^20 and one more by 3: 2^32 and 1365.33.
        self.assertEqual(sm_gain([65535] * 48 + [49], [3] + [0] * 48), [0, 1365])

    def test_the_longest_lists(self):
        self.assertEqual(sm_gain([65535] * 4096, [65535] * 4096), [0, 4096])
        # 4096 * 4096 * 65535 is 2^24 times 2^16 - 1: 2^40 - 2^24, modulo 2^32 that is 2^32 - 2^24.
        self.assertEqual(sm_gain([65535] * 4096, [1] + [0] * 4095), [0, 4278190080])
        self.assertEqual(sm_gain([1] + [0] * 4095, [65535] * 4096), [0, 0])
        self.assertEqual(sm_gain([32768] + [0] * 4095, [65535] * 4096), [0, 1])
        for count in (4095, 4096):
            a, b = pattern(count), pattern(count, 31)
            self.assertEqual(sm_gain(a, b), gain_by_fractions(a, b))


class WrongInputs(unittest.TestCase):
    def test_more_than_4096(self):
        for count in (4097, 4098, 5000):
            self.assertEqual(sm_gain([1] * count, [1] * count), [-2])
            self.assertEqual(sm_gain([0] * count, [0] * count), [-2])
            self.assertEqual(sm_gain(pattern(count), pattern(count, 31)), [-2])


class StandsAlone(unittest.TestCase):
    def test_nothing_is_changed_or_kept(self):
        lists = [pattern(40), pattern(40, 31)]
        kept = assert_same_twice(self, sm_gain, [], lists)
        sm_gain([1, 2], [3, 4])
        sm_gain([1] * 4097, [1] * 4097)
        self.assertEqual(assert_same_twice(self, sm_gain, [], lists), kept)

    def test_no_numbers_twice(self):
        self.assertEqual(assert_same_twice(self, sm_gain, [], [[], []]), [0, 0])

    def test_a_refusal_is_the_same_twice(self):
        self.assertEqual(assert_same_twice(self, sm_gain, [], [pattern(4097), pattern(4097)]), [-2])


if __name__ == "__main__":
    unittest.main()
