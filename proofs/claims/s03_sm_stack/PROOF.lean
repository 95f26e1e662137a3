import PyProof.Rows.All
import Wide.All
import OpenK.AllK
import Wide.FinOn
import Open.SpecLaws
import KE.OsGo
import HandS.ForSpec
import HandS.ForMost
import HandS.Walk
import HandS.Wide
import HandS.SortInts
import PySem.Challenge.RW_picturestack_s03_sm_stack
set_option Elab.async false
set_option linter.all false
set_option maxRecDepth 100000
set_option maxHeartbeats 4000000
/-! ### plain mathematics: words with a sign, ranges, lists row by row -/
namespace Ps
/-- a word with its sign -/
def sg (x : Int) : Int := if 2147483648 ≤ x then x - 4294967296 else x
theorem sg_int32 {x : Int} (h0 : 0 ≤ x) : Sh69Neutral.int32 x.toNat = sg x := by
  unfold Sh69Neutral.int32 sg
  by_cases h : 2147483648 ≤ x
  · rw [if_pos h, if_neg (by omega)]
    omega
  · rw [if_neg h, if_pos (by omega)]
    omega
def inR (lo hi n : Int) : Bool := decide (lo ≤ n) && decide (n ≤ hi)
theorem inR_iff {lo hi n : Int} : inR lo hi n = true ↔ lo ≤ n ∧ n ≤ hi := by
  unfold inR
  rw [Bool.and_eq_true, decide_eq_true_iff, decide_eq_true_iff]
/-- column and row stand in a picture -/
def inPic (c r w h : Int) : Bool := decide (0 ≤ c) && (decide (c < w) && (decide (0 ≤ r) && decide (r < h)))
theorem inPic_iff {c r w h : Int} : inPic c r w h = true ↔ 0 ≤ c ∧ c < w ∧ 0 ≤ r ∧ r < h := by
  unfold inPic
  simp only [Bool.and_eq_true, decide_eq_true_iff]
theorem fm_congr {α β : Type} {f g : α → List β} : ∀ {l : List α}, (∀ a ∈ l, f a = g a) → l.flatMap f = l.flatMap g
  | [], _ => rfl
  | a :: l, h => by
    rw [List.flatMap_cons, List.flatMap_cons, h a (List.mem_cons_self ..), fm_congr fun b hb => h b (List.mem_cons_of_mem _ hb)]
/-- row by row, the first i rows -/
def rows {α : Type} (g : Nat → Nat → α) (w i : Nat) : List α := (List.range i).flatMap fun r => (List.range w).map fun c => g c r
theorem rows_succ {α : Type} (g : Nat → Nat → α) (w i : Nat) : rows g w (i + 1) = rows g w i ++ (List.range w).map fun c => g c i := by
  unfold rows
  rw [List.range_succ, List.flatMap_append]
  simp only [List.flatMap_cons, List.flatMap_nil, List.append_nil]
theorem rows_length {α : Type} (g : Nat → Nat → α) (w : Nat) : ∀ i, (rows g w i).length = i * w
  | 0 => by
    unfold rows
    simp
  | i + 1 => by
    rw [rows_succ, List.length_append, rows_length g w i, List.length_map, List.length_range, Nat.succ_mul]
theorem row_succ {α : Type} (g : Nat → Nat → α) (i j : Nat) : (List.range (j + 1)).map (fun c => g c i) = (List.range j).map (fun c => g c i) ++ [g j i] := by
  rw [List.range_succ, List.map_append]
  rfl
theorem rows_congr {α : Type} {g g' : Nat → Nat → α} {w h : Nat} (e : ∀ c r, c < w → r < h → g c r = g' c r) : rows g w h = rows g' w h := by
  unfold rows
  refine fm_congr fun r hr => ?_
  refine List.map_congr_left fun c hc => ?_
  exact e c r (List.mem_range.mp hc) (List.mem_range.mp hr)
theorem rows_map {α β : Type} (f : α → β) (g : Nat → Nat → α) (w h : Nat) : (rows g w h).map f = rows (fun c r => f (g c r)) w h := by
  unfold rows
  rw [List.map_flatMap]
  refine fm_congr fun r _ => ?_
  rw [List.map_map]
  rfl
theorem ints_each (w h : Nat) (f : Nat → Nat → Nat) : Sh69Neutral.ints (Sh69.each w h f) = rows (fun c r => (f c r : Int)) w h := by
  unfold Sh69Neutral.ints Sh69.each rows
  rw [List.map_flatMap]
  refine fm_congr fun r _ => ?_
  rw [List.map_map]
  rfl
/-- the place in a list of rows -/
theorem place_lt {w h c r : Int} (hc0 : 0 ≤ c) (hc : c < w) (hr0 : 0 ≤ r) (hr : r < h) : 0 ≤ r * w + c ∧ r * w + c < w * h := by
  have h1 : 0 ≤ r * w := Int.mul_nonneg hr0 (by omega)
  have h2 : (r + 1) * w ≤ h * w := Int.mul_le_mul_of_nonneg_right (by omega) (by omega)
  rw [Int.add_mul, Int.one_mul, Int.mul_comm h w] at h2
  omega
theorem nats_getD {ns : List Int} (h0 : ∀ n ∈ ns, 0 ≤ n) (i : Nat) : ((Sh69.num (Sh69Neutral.nats ns) i : Nat) : Int) = ns.getD i 0 := by
  unfold Sh69.num Sh69Neutral.nats
  rw [List.getD_eq_getElem?_getD, List.getD_eq_getElem?_getD, List.getElem?_map]
  cases e : ns[i]? with
  | none => rfl
  | some z =>
    have hz : 0 ≤ z := h0 z (List.mem_of_getElem? e)
    show ((z.toNat : Nat) : Int) = z
    omega
theorem nats_length (ns : List Int) : (Sh69Neutral.nats ns).length = ns.length := List.length_map _
theorem list_at {ns : List Int} {i : Nat} (h : i < ns.length) : ns[i]? = some (ns.getD i 0) := by
  rw [List.getD_eq_getElem?_getD, List.getElem?_eq_getElem h]
  rfl
end Ps
/-! ### the later calls of the specification over whole numbers -/
namespace Ps
theorem few_iff {n : Nat} : Sh69.few n = true ↔ n ≤ 4096 := by
  unfold Sh69.few
  rw [decide_eq_true_iff]
theorem among_iff {n : Int} {lo hi : Nat} (h0 : 0 ≤ n) : Sh69.among n.toNat lo hi = true ↔ (lo : Int) ≤ n ∧ n ≤ (hi : Int) := by
  unfold Sh69.among
  simp only [Bool.and_eq_true, decide_eq_true_iff]
  omega
theorem amongN_iff {n lo hi : Nat} : Sh69.among n lo hi = true ↔ lo ≤ n ∧ n ≤ hi := by
  unfold Sh69.among
  simp only [Bool.and_eq_true, decide_eq_true_iff]
theorem nats_cast {ns : List Int} (h0 : ∀ n ∈ ns, 0 ≤ n) : (Sh69Neutral.nats ns).map (fun (x : Nat) => (x : Int)) = ns := by
  unfold Sh69Neutral.nats
  rw [List.map_map]
  refine (List.map_congr_left fun a ha => ?_).trans (List.map_id ns)
  show ((a.toNat : Nat) : Int) = a
  have := h0 a ha
  omega
theorem sum_cast : ∀ l : List Nat, ((l.sum : Nat) : Int) = (l.map (fun (x : Nat) => (x : Int))).sum
  | [] => rfl
  | a :: l => by
    rw [List.sum_cons, List.map_cons, List.sum_cons, Int.natCast_add, sum_cast l]
theorem nats_sum {ns : List Int} (h0 : ∀ n ∈ ns, 0 ≤ n) : (((Sh69Neutral.nats ns).sum : Nat) : Int) = ns.sum := by
  rw [sum_cast, nats_cast h0]
/-! finish -/
def near (a b : Int) : Int := (2 * a + b) / (2 * b)
def finG (s m : Int) : Int := if m = 0 then 0 else near s m % 4294967296
def finAns (sums much : List Int) : List Int := if sums.length ≤ 4096 then 0 :: (sums.zip much).map (fun p => finG p.1 p.2) else [-2]
theorem near_cast' (a b : Nat) : ((Sh69.nearN a b : Nat) : Int) = near a b := by
  unfold Sh69.nearN near
  rw [Int.natCast_ediv, Int.natCast_add, Int.natCast_mul, Int.natCast_mul]
  rfl
theorem fin_is {sums much : List Int} (h1 : ∀ n ∈ sums, 0 ≤ n) (h2 : ∀ n ∈ much, 0 ≤ n) : PySh69.sm_finish sums much = finAns sums much := by
  show Sh69Neutral.told (Sh69.answer (if Sh69.few (Sh69Neutral.nats sums).length = true then Sh69.Call.finish (Sh69Neutral.nats sums) (Sh69Neutral.nats much) else Sh69.Call.bad)) = _
  unfold finAns
  by_cases k : sums.length ≤ 4096
  · rw [if_pos k, if_pos (few_iff.mpr (by rw [nats_length]; exact k))]
    show 0 :: Sh69Neutral.ints ((Sh69.finished (Sh69Neutral.nats sums) (Sh69Neutral.nats much)).map fun a => a % 4294967296) = _
    refine congrArg _ ?_
    unfold Sh69Neutral.ints Sh69.finished Sh69Neutral.nats
    rw [List.zip_map, List.map_map, List.map_map, List.map_map]
    refine List.map_congr_left fun p hp => ?_
    have m1 := h1 p.1 (List.of_mem_zip hp).1
    have m2 := h2 p.2 (List.of_mem_zip hp).2
    show (((if p.2.toNat = 0 then 0 else Sh69.nearN p.1.toNat p.2.toNat) % 4294967296 : Nat) : Int) = finG p.1 p.2
    unfold finG
    by_cases z : p.2 = 0
    · rw [if_pos z, if_pos (by omega)]
      rfl
    · rw [if_neg z, if_neg (by omega), Int.natCast_emod, near_cast', Int.toNat_of_nonneg m1, Int.toNat_of_nonneg m2]
      rfl
  · rw [if_neg k, if_neg (fun z => k (by rw [few_iff, nats_length] at z; exact z))]
    rfl
theorem two_len {a b : List Int} {c : Bool} (q : (if c = true then a.length == (Sh69Neutral.nats a).length && b.length == (Sh69Neutral.nats a).length else (a.isEmpty && b.isEmpty) || (a.length == (Sh69Neutral.nats a).length && b.length == (Sh69Neutral.nats a).length)) = true) : b.length = a.length := by
  rw [nats_length] at q
  cases c with
  | true =>
    rw [if_pos rfl, Bool.and_eq_true] at q
    exact beq_iff_eq.mp q.2
  | false =>
    rw [if_neg Bool.false_ne_true, Bool.or_eq_true, Bool.and_eq_true, Bool.and_eq_true] at q
    rcases q with q | q
    · rw [List.isEmpty_iff.mp q.1, List.isEmpty_iff.mp q.2]
    · exact beq_iff_eq.mp q.2
theorem fin_len {sums much : List Int} (ha : PySh69.sm_finish_asked sums much = true) : much.length = sums.length := by
  have q : (Sh69Neutral.asked1 [[5], sums, much] && decide ((Sh69Neutral.f [[5], sums, much]).length < 1000000)) = true := ha
  rw [Bool.and_eq_true] at q
  have q1 : (sums.all (fun (z : Int) => Sh69Neutral.natural z 64) && (much.all (fun (z : Int) => Sh69Neutral.natural z 32) && (if (Sh69.few (Sh69Neutral.nats sums).length) = true then sums.length == (Sh69Neutral.nats sums).length && much.length == (Sh69Neutral.nats sums).length else (sums.isEmpty && much.isEmpty) || (sums.length == (Sh69Neutral.nats sums).length && much.length == (Sh69Neutral.nats sums).length)))) = true := q.1
  rw [Bool.and_eq_true, Bool.and_eq_true] at q1
  exact two_len q1.2.2
/-! gain -/
def gainG (a b : List Int) : Int := if b.sum = 0 then 0 else near (4096 * a.sum) b.sum % 4294967296
def gainAns (a b : List Int) : List Int := if a.length ≤ 4096 then [0, gainG a b] else [-2]
theorem gain_is {a b : List Int} (h1 : ∀ n ∈ a, 0 ≤ n) (h2 : ∀ n ∈ b, 0 ≤ n) : PySh69.sm_gain a b = gainAns a b := by
  show Sh69Neutral.told (Sh69.answer (if Sh69.few (Sh69Neutral.nats a).length = true then Sh69.Call.gain (Sh69Neutral.nats a) (Sh69Neutral.nats b) else Sh69.Call.bad)) = _
  unfold gainAns
  by_cases k : a.length ≤ 4096
  · rw [if_pos k, if_pos (few_iff.mpr (by rw [nats_length]; exact k))]
    show [0, ((Sh69.gain (Sh69Neutral.nats a) (Sh69Neutral.nats b) % 4294967296 : Nat) : Int)] = [0, gainG a b]
    have e1 := nats_sum h1
    have e2 := nats_sum h2
    unfold Sh69.gain gainG
    by_cases z : b.sum = 0
    · rw [if_pos z, if_pos (by omega)]
      rfl
    · rw [if_neg z, if_neg (by omega), Int.natCast_emod, near_cast', Int.natCast_mul, e1, e2]
      rfl
  · rw [if_neg k, if_neg (fun z => k (by rw [few_iff, nats_length] at z; exact z))]
    rfl
theorem gain_len {a b : List Int} (ha : PySh69.sm_gain_asked a b = true) : b.length = a.length := by
  have q : (Sh69Neutral.asked1 [[7], a, b] && decide ((Sh69Neutral.f [[7], a, b]).length < 1000000)) = true := ha
  rw [Bool.and_eq_true] at q
  have q1 : (a.all (fun (z : Int) => Sh69Neutral.natural z 16) && (b.all (fun (z : Int) => Sh69Neutral.natural z 16) && (if (Sh69.few (Sh69Neutral.nats a).length) = true then a.length == (Sh69Neutral.nats a).length && b.length == (Sh69Neutral.nats a).length else (a.isEmpty && b.isEmpty) || (a.length == (Sh69Neutral.nats a).length && b.length == (Sh69Neutral.nats a).length)))) = true := q.1
  rw [Bool.and_eq_true, Bool.and_eq_true] at q1
  exact two_len q1.2.2
/-! less -/
def lessAns (a b : List Int) : List Int := if a.length ≤ 4096 then 0 :: (a.zip b).map (fun p => (p.1 - p.2) % 4294967296) else [-2]
theorem less_is {a b : List Int} (h1 : ∀ n ∈ a, 0 ≤ n) (h2 : ∀ n ∈ b, 0 ≤ n) : PySh69.sm_less a b = lessAns a b := by
  show Sh69Neutral.told (Sh69.answer (if Sh69.few (Sh69Neutral.nats a).length = true then Sh69.Call.less (Sh69Neutral.nats a) (Sh69Neutral.nats b) else Sh69.Call.bad)) = _
  unfold lessAns
  by_cases k : a.length ≤ 4096
  · rw [if_pos k, if_pos (few_iff.mpr (by rw [nats_length]; exact k))]
    show 0 :: Sh69Neutral.ints (((Sh69Neutral.nats a).zip (Sh69Neutral.nats b)).map fun p => Sh69.wordOf ((p.1 : Int) - (p.2 : Int))) = _
    refine congrArg _ ?_
    unfold Sh69Neutral.ints Sh69Neutral.nats
    rw [List.zip_map, List.map_map, List.map_map]
    refine List.map_congr_left fun p hp => ?_
    have m1 := h1 p.1 (List.of_mem_zip hp).1
    have m2 := h2 p.2 (List.of_mem_zip hp).2
    show ((Sh69.wordOf (((p.1.toNat : Nat) : Int) - ((p.2.toNat : Nat) : Int)) : Nat) : Int) = _
    unfold Sh69.wordOf
    rw [Int.toNat_of_nonneg m1, Int.toNat_of_nonneg m2]
    omega
  · rw [if_neg k, if_neg (fun z => k (by rw [few_iff, nats_length] at z; exact z))]
    rfl
theorem less_len {a b : List Int} (ha : PySh69.sm_less_asked a b = true) : b.length = a.length := by
  have q : (Sh69Neutral.asked1 [[8], a, b] && decide ((Sh69Neutral.f [[8], a, b]).length < 1000000)) = true := ha
  rw [Bool.and_eq_true] at q
  have q1 : (a.all (fun (z : Int) => Sh69Neutral.natural z 16) && (b.all (fun (z : Int) => Sh69Neutral.natural z 16) && (if (Sh69.few (Sh69Neutral.nats a).length) = true then a.length == (Sh69Neutral.nats a).length && b.length == (Sh69Neutral.nats a).length else (a.isEmpty && b.isEmpty) || (a.length == (Sh69Neutral.nats a).length && b.length == (Sh69Neutral.nats a).length)))) = true := q.1
  rw [Bool.and_eq_true, Bool.and_eq_true] at q1
  exact two_len q1.2.2
/-! level -/
def levelG (g o a : Int) : Int := max 0 (min 65535 (near (g * a) 4096 + o))
def levelOk (g o : Int) (l : List Int) : Bool := decide (l.length ≤ 4096) && (decide (g ≤ 16777216) && inR (-65536) 65536 (sg o))
def levelAns (g o : Int) (l : List Int) : List Int := if levelOk g o l = true then 0 :: l.map (levelG g (sg o)) else [-2]
theorem level_is {g o : Int} {l : List Int} (hg : 0 ≤ g) (ho : 0 ≤ o) (h1 : ∀ n ∈ l, 0 ≤ n) : PySh69.sm_level g o l = levelAns g o l := by
  show Sh69Neutral.told (Sh69.answer (if (Sh69.few (Sh69Neutral.nats l).length && (decide (g.toNat ≤ 16777216) && Sh69.within (Sh69Neutral.int32 o.toNat) (-65536) 65536)) = true then Sh69.Call.level g.toNat (Sh69Neutral.int32 o.toNat) (Sh69Neutral.nats l) else Sh69.Call.bad)) = _
  have e : (Sh69.few (Sh69Neutral.nats l).length && (decide (g.toNat ≤ 16777216) && Sh69.within (Sh69Neutral.int32 o.toNat) (-65536) 65536)) = levelOk g o l := by
    unfold levelOk Sh69.few inR Sh69.within
    rw [nats_length, sg_int32 ho, show decide (g.toNat ≤ 16777216) = decide (g ≤ 16777216) from decide_eq_decide.mpr (by omega)]
  rw [e]
  unfold levelAns
  by_cases k : levelOk g o l = true
  · rw [if_pos k, if_pos k]
    show 0 :: Sh69Neutral.ints ((Sh69Neutral.nats l).map (Sh69.levelled g.toNat (Sh69Neutral.int32 o.toNat))) = _
    refine congrArg _ ?_
    unfold Sh69Neutral.ints Sh69Neutral.nats
    rw [List.map_map, List.map_map]
    refine List.map_congr_left fun a ha => ?_
    have m1 := h1 a ha
    show ((Sh69.levelled g.toNat (Sh69Neutral.int32 o.toNat) a.toNat : Nat) : Int) = levelG g (sg o) a
    unfold Sh69.levelled levelG
    rw [near_cast', sg_int32 ho, Int.natCast_mul, Int.toNat_of_nonneg hg, Int.toNat_of_nonneg m1, Int.toNat_of_nonneg (Int.le_max_left ..)]
    rfl
  · rw [if_neg k, if_neg k]
    rfl
/-! ends -/
def colX (x : List Int) (n k i : Nat) : List Int := (List.range k).map fun j => x.getD (j * n + i) 0
def endsOk (n : Int) (x : List Int) : Bool := inR 1 4096 n && inR 1 16 ((x.length / n.toNat : Nat) : Int)
def lo (x : List Int) (n k i : Nat) : Int := (colX x n k i).foldl min 65535
def hi (x : List Int) (n k i : Nat) : Int := (colX x n k i).foldl max 0
def endsAns (n : Int) (x : List Int) : List Int := if endsOk n x = true then 0 :: (n :: (List.range n.toNat).map (lo x n.toNat (x.length / n.toNat)) ++ n :: (List.range n.toNat).map (hi x n.toNat (x.length / n.toNat))) else [-2]
theorem nums_cast {x : List Int} (h0 : ∀ a ∈ x, 0 ≤ a) (n k i : Nat) : ((List.range k).map fun j => Sh69.num (Sh69Neutral.nats x) (j * n + i)).map (fun (a : Nat) => (a : Int)) = colX x n k i := by
  unfold colX
  rw [List.map_map]
  exact List.map_congr_left fun j _ => nats_getD h0 _
theorem foldmin_cast : ∀ (l : List Nat) (a : Nat), ((l.foldl min a : Nat) : Int) = (l.map (fun (a : Nat) => (a : Int))).foldl min (a : Int)
  | [], a => rfl
  | b :: l, a => by
    rw [List.foldl_cons, List.map_cons, List.foldl_cons, foldmin_cast l]
    congr 1
    omega
theorem foldmax_cast : ∀ (l : List Nat) (a : Nat), ((l.foldl max a : Nat) : Int) = (l.map (fun (a : Nat) => (a : Int))).foldl max (a : Int)
  | [], a => rfl
  | b :: l, a => by
    rw [List.foldl_cons, List.map_cons, List.foldl_cons, foldmax_cast l]
    congr 1
    omega
theorem ends_is {n : Int} {x : List Int} (hn : 0 ≤ n) (h0 : ∀ a ∈ x, 0 ≤ a) : PySh69.sm_ends n x = endsAns n x := by
  show Sh69Neutral.told (Sh69.answer (if (Sh69.among n.toNat 1 4096 && Sh69.among ((Sh69Neutral.nats x).length / n.toNat) 1 16) = true then Sh69.Call.ends n.toNat (Sh69Neutral.nats x) else Sh69.Call.bad)) = _
  have e : (Sh69.among n.toNat 1 4096 && Sh69.among ((Sh69Neutral.nats x).length / n.toNat) 1 16) = endsOk n x := by
    rw [Bool.eq_iff_iff]
    unfold endsOk
    rw [Bool.and_eq_true, Bool.and_eq_true, among_iff hn, amongN_iff, inR_iff, inR_iff, nats_length]
    omega
  rw [e]
  unfold endsAns
  by_cases k : endsOk n x = true
  · rw [if_pos k, if_pos k]
    have e1 : Sh69Neutral.ints ((List.range n.toNat).map fun i => (Sh69.ends n.toNat (Sh69Neutral.nats x) i).1) = (List.range n.toNat).map (lo x n.toNat (x.length / n.toNat)) := by
      unfold Sh69Neutral.ints
      rw [List.map_map]
      refine List.map_congr_left fun i _ => ?_
      show ((((List.range ((Sh69Neutral.nats x).length / n.toNat)).map fun j => Sh69.num (Sh69Neutral.nats x) (j * n.toNat + i)).foldl min 65535 : Nat) : Int) = _
      rw [foldmin_cast, nums_cast h0, nats_length]
      rfl
    have e2 : Sh69Neutral.ints ((List.range n.toNat).map fun i => (Sh69.ends n.toNat (Sh69Neutral.nats x) i).2) = (List.range n.toNat).map (hi x n.toNat (x.length / n.toNat)) := by
      unfold Sh69Neutral.ints
      rw [List.map_map]
      refine List.map_congr_left fun i _ => ?_
      show ((((List.range ((Sh69Neutral.nats x).length / n.toNat)).map fun j => Sh69.num (Sh69Neutral.nats x) (j * n.toNat + i)).foldl max 0 : Nat) : Int) = _
      rw [foldmax_cast, nums_cast h0, nats_length]
      rfl
    show (0 : Int) :: ([(List.range n.toNat).map fun i => (Sh69.ends n.toNat (Sh69Neutral.nats x) i).1, (List.range n.toNat).map fun i => (Sh69.ends n.toNat (Sh69Neutral.nats x) i).2] : List (List Nat)).flatMap (fun (l : List Nat) => ((l.length : Nat) : Int) :: Sh69Neutral.ints l) = _
    simp only [List.flatMap_cons, List.flatMap_nil, List.append_nil]
    rw [e1, e2, List.length_map, List.length_map, List.length_range, Int.toNat_of_nonneg hn]
  · rw [if_neg k, if_neg k]
    rfl
theorem ends_len {n : Int} {x : List Int} (ha : PySh69.sm_ends_asked n x = true) : x.length = n.toNat * (x.length / n.toNat) := by
  have q : (Sh69Neutral.asked1 [[3, n], x] && decide ((Sh69Neutral.f [[3, n], x]).length < 1000000)) = true := ha
  rw [Bool.and_eq_true] at q
  have q1 : (Sh69Neutral.natural n 32 && (x.all (fun (z : Int) => Sh69Neutral.natural z 16) && (if (Sh69.among n.toNat 1 4096 && Sh69.among ((Sh69Neutral.nats x).length / n.toNat) 1 16) = true then x.length == (n.toNat * ((Sh69Neutral.nats x).length / n.toNat)) else x.isEmpty || (x.length == (n.toNat * ((Sh69Neutral.nats x).length / n.toNat)))))) = true := q.1
  rw [Bool.and_eq_true, Bool.and_eq_true, nats_length] at q1
  have z := q1.2.2
  split at z
  · exact beq_iff_eq.mp z
  · rw [Bool.or_eq_true] at z
    rcases z with z | z
    · rw [List.isEmpty_iff.mp z]
      simp
    · exact beq_iff_eq.mp z
end Ps
/-! ### stack and drop of the specification over whole numbers -/
namespace Ps
/-! the middle one -/
theorem pw_le_unique : ∀ {l m : List Int}, l.Perm m → l.Pairwise (· ≤ ·) → m.Pairwise (· ≤ ·) → l = m
  | [], m, p, _, _ => (List.Perm.nil_eq p)
  | a :: l, [], p, _, _ => by
    have := p.length_eq
    simp at this
  | a :: l, b :: m, p, h1, h2 => by
    rw [List.pairwise_cons] at h1 h2
    have ha : a ∈ b :: m := p.subset (List.mem_cons_self ..)
    have hb : b ∈ a :: l := p.symm.subset (List.mem_cons_self ..)
    have e : a = b := by
      rcases List.mem_cons.mp ha with e | ha
      · exact e
      · rcases List.mem_cons.mp hb with e | hb
        · exact e.symm
        · exact Int.le_antisymm (h1.1 b hb) (h2.1 a ha)
    subst e
    rw [pw_le_unique (List.Perm.cons_inv p) h1.2 h2.2]
/-- the specification's sort, cast -/
theorem sort_cast (l : List Nat) : ((l.mergeSort fun a b => decide (a ≤ b)).map (fun (a : Nat) => (a : Int))).Pairwise (· ≤ ·) ∧ ((l.mergeSort fun a b => decide (a ≤ b)).map (fun (a : Nat) => (a : Int))).Perm (l.map (fun (a : Nat) => (a : Int))) := by
  constructor
  · rw [List.pairwise_map]
    refine (List.pairwise_mergeSort (le := fun (a b : Nat) => decide (a ≤ b)) (fun a b c h1 h2 => ?_) (fun a b => ?_) l).imp fun {a b} h => ?_
    · have h1 := of_decide_eq_true h1
      have h2 := of_decide_eq_true h2
      exact decide_eq_true (by omega)
    · rcases Nat.le_total a b with h | h
      · rw [decide_eq_true h]
        rfl
      · rw [decide_eq_true h, Bool.or_true]
    · have h := of_decide_eq_true h
      show (a : Int) ≤ (b : Int)
      omega
  · exact (List.mergeSort_perm l _).map _
/-- a list in order, with the items of l, has the middle one at its middle -/
theorem median_is {l : List Nat} {s : List Int} (p : s.Perm (l.map (fun (a : Nat) => (a : Int)))) (h : s.Pairwise (· ≤ ·)) : ((Sh69.median l : Nat) : Int) = s.getD ((l.length - 1) / 2) 0 := by
  have e : s = (l.mergeSort fun a b => decide (a ≤ b)).map (fun (a : Nat) => (a : Int)) := pw_le_unique (p.trans (sort_cast l).2.symm) h (sort_cast l).1
  rw [e]
  unfold Sh69.median Sh69.num
  rw [List.getD_eq_getElem?_getD, List.getD_eq_getElem?_getD, List.getElem?_map]
  cases (l.mergeSort fun a b => decide (a ≤ b))[(l.length - 1) / 2]? <;> rfl
/-- the middle one of whole numbers: what any arrangement in order has there -/
def med (l : List Int) : Int := ((Sh69.median (l.map Int.toNat) : Nat) : Int)
theorem med_is {l s : List Int} (h0 : ∀ a ∈ l, 0 ≤ a) (p : s.Perm l) (h : s.Pairwise (· ≤ ·)) : med l = s.getD ((l.length - 1) / 2) 0 := by
  have e : (l.map Int.toNat).map (fun (a : Nat) => (a : Int)) = l := nats_cast h0
  unfold med
  rw [median_is (s := s) (by rw [e]; exact p) h, List.length_map]
theorem med_cast (l : List Nat) : ((Sh69.median l : Nat) : Int) = med (l.map (fun (a : Nat) => (a : Int))) := by
  unfold med
  rw [List.map_map]
  congr 2
  exact (List.map_id l).symm
/-! stack -/
def pairX (x cov : List Int) (n i j : Nat) : Int × Int := (x.getD (j * n + i) 0, cov.getD (j * n + i) 0)
def colP (least : Int) (x cov : List Int) (n k i : Nat) : List (Int × Int) := ((List.range k).map (pairX x cov n i)).filter fun p => decide (max 1 least ≤ p.2)
def apartZ (a b : Int) : Int := max a b - min a b
def keptP (q : Int) (l : List (Int × Int)) : List (Int × Int) := l.filter fun p => decide (4 * apartZ (med (l.map (·.1))) p.1 ≤ q * max 1 (med (l.map fun p => apartZ (med (l.map (·.1))) p.1)))
def meanP (l : List (Int × Int)) : Int × Int × Int := (if (l.map (·.2)).sum = 0 then 0 else near (l.map fun p => p.1 * p.2).sum (l.map (·.2)).sum, (l.length : Int), (l.map (·.2)).sum)
def stackG (least q : Int) (x cov : List Int) (n k i : Nat) : Int × Int × Int := meanP (keptP q (colP least x cov n k i))
def stackOk (n least q : Int) (x : List Int) : Bool := inR 1 4096 n && (inR 1 16 ((x.length / n.toNat : Nat) : Int) && (decide (least ≤ 65535) && decide (q ≤ 256)))
def stackAns (n least q : Int) (x cov : List Int) : List Int := if stackOk n least q x = true then
    0 :: (n :: (List.range n.toNat).map (fun i => (stackG least q x cov n.toNat (x.length / n.toNat) i).1) ++ (n :: (List.range n.toNat).map (fun i => (stackG least q x cov n.toNat (x.length / n.toNat) i).2.1) ++ n :: (List.range n.toNat).map (fun i => (stackG least q x cov n.toNat (x.length / n.toNat) i).2.2))) else [-2]
def castP (p : Nat × Nat) : Int × Int := ((p.1 : Int), (p.2 : Int))
theorem filter_cast {f : Nat × Nat → Bool} {g : Int × Int → Bool} (e : ∀ p, f p = g (castP p)) (l : List (Nat × Nat)) : (l.filter f).map castP = (l.map castP).filter g := by
  induction l with
  | nil => rfl
  | cons a l ih =>
    rw [List.map_cons, List.filter_cons, List.filter_cons, ← e a]
    cases f a with
    | true => rw [if_pos rfl, if_pos rfl, List.map_cons, ih]
    | false => rw [if_neg Bool.false_ne_true, if_neg Bool.false_ne_true, ih]
theorem column_cast {least : Int} {x cov : List Int} (hl : 0 ≤ least) (hx : ∀ a ∈ x, 0 ≤ a) (hc : ∀ a ∈ cov, 0 ≤ a) (n i : Nat) : (Sh69.column least.toNat n (Sh69Neutral.nats x) (Sh69Neutral.nats cov) i).map castP = colP least x cov n (x.length / n) i := by
  unfold Sh69.column colP
  rw [filter_cast (g := fun p => decide (max 1 least ≤ p.2)) (fun p => ?_), List.map_map, nats_length]
  · congr 1
    refine List.map_congr_left fun j _ => ?_
    show (((Sh69.num (Sh69Neutral.nats x) (j * n + i) : Nat) : Int), ((Sh69.num (Sh69Neutral.nats cov) (j * n + i) : Nat) : Int)) = pairX x cov n i j
    rw [nats_getD hx, nats_getD hc]
    rfl
  · refine decide_eq_decide.mpr ?_
    show max 1 least.toNat ≤ p.2 ↔ max 1 least ≤ (p.2 : Int)
    omega
theorem apart_cast (a b : Nat) : ((Sh69.apart a b : Nat) : Int) = apartZ a b := by
  unfold Sh69.apart apartZ
  omega
theorem fst_cast (l : List (Nat × Nat)) : (l.map fun p => p.1).map (fun (a : Nat) => (a : Int)) = (l.map castP).map (·.1) := by
  rw [List.map_map, List.map_map]
  rfl
theorem snd_cast (l : List (Nat × Nat)) : (l.map fun p => p.2).map (fun (a : Nat) => (a : Int)) = (l.map castP).map (·.2) := by
  rw [List.map_map, List.map_map]
  rfl
theorem kept_cast {q : Int} (hq : 0 ≤ q) (l : List (Nat × Nat)) : (Sh69.kept q.toNat l).map castP = keptP q (l.map castP) := by
  unfold Sh69.kept keptP
  dsimp only
  refine filter_cast (fun p => ?_) l
  have e1 : ((Sh69.median (l.map fun p => p.1) : Nat) : Int) = med ((l.map castP).map (·.1)) := by
    rw [med_cast, fst_cast]
  have e2 : ((Sh69.median (l.map fun p => Sh69.apart (Sh69.median (l.map fun p => p.1)) p.1) : Nat) : Int) = med ((l.map castP).map fun p => apartZ (med ((l.map castP).map (·.1))) p.1) := by
    rw [med_cast, List.map_map, List.map_map]
    congr 1
    refine List.map_congr_left fun p _ => ?_
    show ((Sh69.apart _ p.1 : Nat) : Int) = apartZ _ (p.1 : Int)
    rw [apart_cast, e1]
  have e3 : ((Sh69.apart (Sh69.median (l.map fun p => p.1)) p.1 : Nat) : Int) = apartZ (med ((l.map castP).map (·.1))) (castP p).1 := by
    rw [apart_cast, e1]
    rfl
  refine decide_eq_decide.mpr ?_
  rw [← e2, ← e3]
  generalize Sh69.apart (Sh69.median (l.map fun p => p.1)) p.1 = A
  generalize Sh69.median (l.map fun p => Sh69.apart (Sh69.median (l.map fun p => p.1)) p.1) = B
  have e4 : q * max 1 (B : Int) = ((q.toNat * max 1 B : Nat) : Int) := by
    rw [Int.natCast_mul, Int.toNat_of_nonneg hq]
    congr 1
    omega
  rw [e4]
  omega
theorem mean_cast (l : List (Nat × Nat)) : (((Sh69.mean l).1 : Int), ((Sh69.mean l).2.1 : Int), ((Sh69.mean l).2.2 : Int)) = meanP (l.map castP) := by
  unfold Sh69.mean meanP
  dsimp only
  have e1 : (((l.map fun p => p.2).sum : Nat) : Int) = ((l.map castP).map (·.2)).sum := by
    rw [sum_cast, snd_cast]
  have e2 : (((l.map fun p => p.1 * p.2).sum : Nat) : Int) = ((l.map castP).map fun p => p.1 * p.2).sum := by
    rw [sum_cast, List.map_map, List.map_map]
    refine congrArg List.sum (List.map_congr_left fun p _ => ?_)
    show ((p.1 * p.2 : Nat) : Int) = (p.1 : Int) * (p.2 : Int)
    rw [Int.natCast_mul]
  rw [List.length_map, ← e1, ← e2]
  refine Prod.ext ?_ rfl
  show ((if (l.map fun p => p.2).sum = 0 then 0 else Sh69.nearN (l.map fun p => p.1 * p.2).sum (l.map fun p => p.2).sum : Nat) : Int) = _
  by_cases z : (l.map fun p => p.2).sum = 0
  · rw [if_pos z, if_pos (by omega)]
    rfl
  · rw [if_neg z, if_neg (by omega), near_cast']
theorem stacked_cast {least q : Int} {x cov : List Int} (hl : 0 ≤ least) (hq : 0 ≤ q) (hx : ∀ a ∈ x, 0 ≤ a) (hc : ∀ a ∈ cov, 0 ≤ a) (n : Nat) : (Sh69.stacked least.toNat q.toNat n (Sh69Neutral.nats x) (Sh69Neutral.nats cov)).map (fun p => ((p.1 : Int), (p.2.1 : Int), (p.2.2 : Int))) = (List.range n).map (stackG least q x cov n (x.length / n)) := by
  unfold Sh69.stacked
  rw [List.map_map]
  refine List.map_congr_left fun i _ => ?_
  show (((Sh69.mean _).1 : Int), ((Sh69.mean _).2.1 : Int), ((Sh69.mean _).2.2 : Int)) = _
  rw [mean_cast, kept_cast hq, column_cast hl hx hc]
  rfl
theorem stack_is {n least q : Int} {x cov : List Int} (hn : 0 ≤ n) (hl : 0 ≤ least) (hq : 0 ≤ q) (hx : ∀ a ∈ x, 0 ≤ a) (hc : ∀ a ∈ cov, 0 ≤ a) : PySh69.sm_stack n least q x cov = stackAns n least q x cov := by
  show Sh69Neutral.told (Sh69.answer (if (Sh69.among n.toNat 1 4096 && (Sh69.among ((Sh69Neutral.nats x).length / n.toNat) 1 16 && (decide (least.toNat ≤ 65535) && decide (q.toNat ≤ 256)))) = true then Sh69.Call.stack least.toNat q.toNat n.toNat (Sh69Neutral.nats x) (Sh69Neutral.nats cov) else Sh69.Call.bad)) = _
  have e : (Sh69.among n.toNat 1 4096 && (Sh69.among ((Sh69Neutral.nats x).length / n.toNat) 1 16 && (decide (least.toNat ≤ 65535) && decide (q.toNat ≤ 256)))) = stackOk n least q x := by
    rw [Bool.eq_iff_iff]
    unfold stackOk
    simp only [Bool.and_eq_true, among_iff hn, amongN_iff, inR_iff, nats_length, decide_eq_true_iff]
    omega
  rw [e]
  unfold stackAns
  by_cases k : stackOk n least q x = true
  · rw [if_pos k, if_pos k]
    have key := stacked_cast hl hq hx hc n.toNat
    show (0 : Int) :: ([_, _, _] : List (List Nat)).flatMap (fun (l : List Nat) => ((l.length : Nat) : Int) :: Sh69Neutral.ints l) = _
    simp only [List.flatMap_cons, List.flatMap_nil, List.append_nil]
    generalize Sh69.stacked least.toNat q.toNat n.toNat (Sh69Neutral.nats x) (Sh69Neutral.nats cov) = l at key
    have ll : l.length = n.toNat := by
      have z := congrArg List.length key
      rw [List.length_map, List.length_map, List.length_range] at z
      exact z
    have f1 : Sh69Neutral.ints (l.map fun p => p.1) = (List.range n.toNat).map (fun i => (stackG least q x cov n.toNat (x.length / n.toNat) i).1) := by
      have z := congrArg (List.map fun (p : Int × Int × Int) => p.1) key
      rw [List.map_map, List.map_map] at z
      unfold Sh69Neutral.ints
      rw [List.map_map]
      exact z
    have f2 : Sh69Neutral.ints (l.map fun p => p.2.1) = (List.range n.toNat).map (fun i => (stackG least q x cov n.toNat (x.length / n.toNat) i).2.1) := by
      have z := congrArg (List.map fun (p : Int × Int × Int) => p.2.1) key
      rw [List.map_map, List.map_map] at z
      unfold Sh69Neutral.ints
      rw [List.map_map]
      exact z
    have f3 : Sh69Neutral.ints (l.map fun p => p.2.2) = (List.range n.toNat).map (fun i => (stackG least q x cov n.toNat (x.length / n.toNat) i).2.2) := by
      have z := congrArg (List.map fun (p : Int × Int × Int) => p.2.2) key
      rw [List.map_map, List.map_map] at z
      unfold Sh69Neutral.ints
      rw [List.map_map]
      exact z
    rw [f1, f2, f3, List.length_map, List.length_map, List.length_map, ll, Int.toNat_of_nonneg hn]
  · rw [if_neg k, if_neg k]
    rfl
theorem stack_len {n least q : Int} {x cov : List Int} (ha : PySh69.sm_stack_asked n least q x cov = true) : x.length = n.toNat * (x.length / n.toNat) ∧ cov.length = x.length := by
  have q : (Sh69Neutral.asked1 [[2, n, least, q], x, cov] && decide ((Sh69Neutral.f [[2, n, least, q], x, cov]).length < 1000000)) = true := ha
  rename_i q0
  rw [Bool.and_eq_true] at q
  have q1 : (Sh69Neutral.natural n 32 && (Sh69Neutral.natural least 32 && (Sh69Neutral.natural q0 32 && (x.all (fun (z : Int) => Sh69Neutral.natural z 16) && (cov.all (fun (z : Int) => Sh69Neutral.natural z 16) && (if (Sh69.among n.toNat 1 4096 && (Sh69.among ((Sh69Neutral.nats x).length / n.toNat) 1 16 && (decide (least.toNat ≤ 65535) && decide (q0.toNat ≤ 256)))) = true then x.length == (n.toNat * ((Sh69Neutral.nats x).length / n.toNat)) && cov.length == (n.toNat * ((Sh69Neutral.nats x).length / n.toNat)) else (x.isEmpty && cov.isEmpty) || (x.length == (n.toNat * ((Sh69Neutral.nats x).length / n.toNat)) && cov.length == (n.toNat * ((Sh69Neutral.nats x).length / n.toNat)))))))))
 = true := q.1
  simp only [Bool.and_eq_true, nats_length] at q1
  have z := q1.2.2.2.2.2
  split at z
  · rw [Bool.and_eq_true] at z
    have z1 := beq_iff_eq.mp z.1
    have z2 := beq_iff_eq.mp z.2
    exact ⟨z1, by omega⟩
  · rw [Bool.or_eq_true, Bool.and_eq_true, Bool.and_eq_true] at z
    rcases z with z | z
    · rw [List.isEmpty_iff.mp z.1, List.isEmpty_iff.mp z.2]
      simp
    · have z1 := beq_iff_eq.mp z.1
      have z2 := beq_iff_eq.mp z.2
      exact ⟨z1, by omega⟩
/-! drop -/
def ovl (x sz : Int) (c : Nat) : Int := max 0 (min (x + sz) (64 * (c : Int) + 64) - max x (64 * (c : Int)))
def crn (s p d : Int) (c : Nat) : Int := (64 * (c : Int) + 32) * s + d - p * s / 2
def dropW (s p dx dy : Int) (C R c r : Nat) : Int := ovl (crn s p dx c) (p * s) C * ovl (crn s p dy r) (p * s) R
def dropG (s p dx dy w h : Int) (fs : List Int) (C R : Nat) : Int × Int := ((rows (fun c r => fs.getD (r * w.toNat + c) 0 * dropW s p dx dy C R c r) w.toNat h.toNat).sum, (rows (fun c r => dropW s p dx dy C R c r) w.toNat h.toNat).sum)
def dropOk (s p dx dy u v w h : Int) : Bool := (inR 1 4 s && inR 1 64 p) && (([sg dx, sg dy].all (inR (-8192) 8192)) && [u, v, w, h].all (inR 1 64))
def dropL (s p dx dy u v w h : Int) (fs : List Int) : List (Int × Int) := rows (dropG s p (sg dx) (sg dy) w h fs) u.toNat v.toNat
def pairAns (l : List (Int × Int)) : List Int := 0 :: ((l.length : Int) :: l.map (·.1) ++ (l.length : Int) :: l.map (·.2))
def dropAns (s p dx dy u v w h : Int) (fs : List Int) : List Int := if dropOk s p dx dy u v w h = true then pairAns (dropL s p dx dy u v w h fs) else [-2]
theorem dropOk_iff {s p dx dy u v w h : Int} : dropOk s p dx dy u v w h = true ↔ ((1 ≤ s ∧ s ≤ 4) ∧ (1 ≤ p ∧ p ≤ 64)) ∧ ((-8192 ≤ sg dx ∧ sg dx ≤ 8192) ∧ (-8192 ≤ sg dy ∧ sg dy ≤ 8192)) ∧ (1 ≤ u ∧ u ≤ 64) ∧ (1 ≤ v ∧ v ≤ 64) ∧ (1 ≤ w ∧ w ≤ 64) ∧ (1 ≤ h ∧ h ≤ 64) := by
  unfold dropOk
  simp only [List.all_cons, List.all_nil, Bool.and_true, Bool.and_eq_true, inR_iff]
theorem dropCond {s p dx dy u v w h : Int} (h1 : 0 ≤ s) (h2 : 0 ≤ p) (h3 : 0 ≤ dx) (h4 : 0 ≤ dy) (h5 : 0 ≤ u) (h6 : 0 ≤ v) (h7 : 0 ≤ w) (h8 : 0 ≤ h) :
    (Sh69.sized w.toNat h.toNat && (Sh69.sized u.toNat v.toNat && (Sh69.off (Sh69Neutral.int32 dx.toNat) (Sh69Neutral.int32 dy.toNat) && (Sh69.among s.toNat 1 4 && Sh69.among p.toNat 1 64)))) = dropOk s p dx dy u v w h := by
  rw [Bool.eq_iff_iff, dropOk_iff]
  simp only [Bool.and_eq_true, among_iff h1, among_iff h2]
  unfold Sh69.sized Sh69.off Sh69.within Sh69.among
  rw [sg_int32 h3, sg_int32 h4]
  simp only [Bool.and_eq_true, decide_eq_true_iff]
  omega
theorem ovl_cast (x : Int) (sz c : Nat) : ((Sh69.overlap x sz c : Nat) : Int) = ovl x sz c := by
  unfold Sh69.overlap ovl
  omega
theorem crn_cast {s p : Int} (h1 : 0 ≤ s) (h2 : 0 ≤ p) (d : Int) (c : Nat) : Sh69.corner s.toNat p.toNat d c = crn s p d c := by
  unfold Sh69.corner crn
  rw [Int.natCast_mul, Int.natCast_ediv, Int.natCast_mul, Int.toNat_of_nonneg h1, Int.toNat_of_nonneg h2]
  rfl
theorem dropW_cast {s p : Int} (h1 : 0 ≤ s) (h2 : 0 ≤ p) (dx dy : Int) (C R c r : Nat) : ((Sh69.overlap (Sh69.corner s.toNat p.toNat dx c) (p.toNat * s.toNat) C * Sh69.overlap (Sh69.corner s.toNat p.toNat dy r) (p.toNat * s.toNat) R : Nat) : Int) = dropW s p dx dy C R c r := by
  unfold dropW
  rw [Int.natCast_mul, ovl_cast, ovl_cast, crn_cast h1 h2, crn_cast h1 h2, Int.natCast_mul, Int.toNat_of_nonneg h1, Int.toNat_of_nonneg h2]
theorem drop_is {s p dx dy u v w h : Int} {fs : List Int} (h1 : 0 ≤ s) (h2 : 0 ≤ p) (h3 : 0 ≤ dx) (h4 : 0 ≤ dy) (h5 : 0 ≤ u) (h6 : 0 ≤ v) (h7 : 0 ≤ w) (h8 : 0 ≤ h) (hf : ∀ n ∈ fs, 0 ≤ n) : PySh69.sm_drop s p dx dy u v w h fs = dropAns s p dx dy u v w h fs := by
  show Sh69Neutral.told (Sh69.answer (if (Sh69.sized w.toNat h.toNat && (Sh69.sized u.toNat v.toNat && (Sh69.off (Sh69Neutral.int32 dx.toNat) (Sh69Neutral.int32 dy.toNat) && (Sh69.among s.toNat 1 4 && Sh69.among p.toNat 1 64)))) = true then Sh69.Call.drop s.toNat p.toNat (Sh69Neutral.int32 dx.toNat) (Sh69Neutral.int32 dy.toNat) u.toNat v.toNat w.toNat h.toNat (Sh69Neutral.nats fs) else Sh69.Call.bad)) = _
  rw [dropCond h1 h2 h3 h4 h5 h6 h7 h8]
  unfold dropAns
  by_cases k : dropOk s p dx dy u v w h = true
  · rw [if_pos k, if_pos k, sg_int32 h3, sg_int32 h4]
    have key : (Sh69.dropped s.toNat p.toNat (sg dx) (sg dy) u.toNat v.toNat w.toNat h.toNat (Sh69Neutral.nats fs)).map castP = dropL s p dx dy u v w h fs := by
      unfold dropL
      show (rows (fun C R => _) u.toNat v.toNat).map _ = _
      rw [rows_map]
      refine rows_congr fun C R _ _ => ?_
      unfold castP dropG
      refine Prod.ext ?_ ?_
      · show (((List.map _ (rows (fun c r => (Sh69.num (Sh69Neutral.nats fs) (r * w.toNat + c), Sh69.overlap (Sh69.corner s.toNat p.toNat (sg dx) c) (p.toNat * s.toNat) C * Sh69.overlap (Sh69.corner s.toNat p.toNat (sg dy) r) (p.toNat * s.toNat) R)) w.toNat h.toNat)).sum : Nat) : Int) = _
        rw [sum_cast, List.map_map, rows_map]
        refine congrArg _ (rows_congr fun c r _ _ => ?_)
        show ((Sh69.num (Sh69Neutral.nats fs) (r * w.toNat + c) * (_ * _) : Nat) : Int) = _
        rw [Int.natCast_mul, nats_getD hf, dropW_cast h1 h2]
      · show (((List.map _ (rows (fun c r => (Sh69.num (Sh69Neutral.nats fs) (r * w.toNat + c), Sh69.overlap (Sh69.corner s.toNat p.toNat (sg dx) c) (p.toNat * s.toNat) C * Sh69.overlap (Sh69.corner s.toNat p.toNat (sg dy) r) (p.toNat * s.toNat) R)) w.toNat h.toNat)).sum : Nat) : Int) = _
        rw [sum_cast, List.map_map, rows_map]
        refine congrArg _ (rows_congr fun c r _ _ => ?_)
        exact dropW_cast h1 h2 _ _ C R c r
    show (0 : Int) :: ([_, _] : List (List Nat)).flatMap (fun (l : List Nat) => ((l.length : Nat) : Int) :: Sh69Neutral.ints l) = _
    simp only [List.flatMap_cons, List.flatMap_nil, List.append_nil]
    generalize Sh69.dropped s.toNat p.toNat (sg dx) (sg dy) u.toNat v.toNat w.toNat h.toNat (Sh69Neutral.nats fs) = l at key
    rw [← key]
    unfold pairAns Sh69Neutral.ints
    simp only [List.map_map, List.length_map]
    rfl
  · rw [if_neg k, if_neg k]
    rfl
theorem drop_len {s p dx dy u v w h : Int} {fs : List Int} (h1 : 0 ≤ s) (h2 : 0 ≤ p) (h3 : 0 ≤ dx) (h4 : 0 ≤ dy) (h5 : 0 ≤ u) (h6 : 0 ≤ v) (h7 : 0 ≤ w) (h8 : 0 ≤ h) (ha : PySh69.sm_drop_asked s p dx dy u v w h fs = true) (k : dropOk s p dx dy u v w h = true) : fs.length = w.toNat * h.toNat := by
  have q : (Sh69Neutral.asked1 [[4, s, p, dx, dy, u, v, w, h], fs] && decide ((Sh69Neutral.f [[4, s, p, dx, dy, u, v, w, h], fs]).length < 1000000)) = true := ha
  rw [Bool.and_eq_true] at q
  have q1 : (Sh69Neutral.natural s 32 && (Sh69Neutral.natural p 32 && (Sh69Neutral.natural dx 32 && (Sh69Neutral.natural dy 32 && (Sh69Neutral.natural u 32 && (Sh69Neutral.natural v 32 && (Sh69Neutral.natural w 32 && (Sh69Neutral.natural h 32 && (fs.all (fun (z : Int) => Sh69Neutral.natural z 16) && (if (Sh69.sized w.toNat h.toNat && (Sh69.sized u.toNat v.toNat && (Sh69.off (Sh69Neutral.int32 dx.toNat) (Sh69Neutral.int32 dy.toNat) && (Sh69.among s.toNat 1 4 && Sh69.among p.toNat 1 64)))) = true then fs.length == (w.toNat * h.toNat) else fs.isEmpty || (fs.length == (w.toNat * h.toNat)))))))))))) = true := q.1
  rw [dropCond h1 h2 h3 h4 h5 h6 h7 h8, if_pos k] at q1
  simp only [Bool.and_eq_true] at q1
  exact beq_iff_eq.mp q1.2.2.2.2.2.2.2.2.2
end Ps
/-! ### ends: least and greatest -/
namespace Ps
theorem foldmin_le : ∀ (l : List Int) (a : Int), l.foldl min a ≤ a ∧ (∀ y ∈ l, l.foldl min a ≤ y) ∧ (l.foldl min a = a ∨ l.foldl min a ∈ l)
  | [], a => ⟨Int.le_refl _, fun y h => absurd h (List.not_mem_nil), .inl rfl⟩
  | b :: l, a => by
    obtain ⟨h1, h2, h3⟩ := foldmin_le l (min a b)
    rw [List.foldl_cons]
    refine ⟨by omega, fun y hy => ?_, ?_⟩
    · rcases List.mem_cons.mp hy with e | hy
      · subst e
        omega
      · exact h2 y hy
    · rcases h3 with h3 | h3
      · rw [h3]
        rcases Int.le_total a b with k | k
        · exact .inl (by omega)
        · refine .inr (List.mem_cons.mpr (.inl (by omega)))
      · exact .inr (List.mem_cons_of_mem _ h3)
theorem foldmax_le : ∀ (l : List Int) (a : Int), a ≤ l.foldl max a ∧ (∀ y ∈ l, y ≤ l.foldl max a) ∧ (l.foldl max a = a ∨ l.foldl max a ∈ l)
  | [], a => ⟨Int.le_refl _, fun y h => absurd h (List.not_mem_nil), .inl rfl⟩
  | b :: l, a => by
    obtain ⟨h1, h2, h3⟩ := foldmax_le l (max a b)
    rw [List.foldl_cons]
    refine ⟨by omega, fun y hy => ?_, ?_⟩
    · rcases List.mem_cons.mp hy with e | hy
      · subst e
        omega
      · exact h2 y hy
    · rcases h3 with h3 | h3
      · rw [h3]
        rcases Int.le_total a b with k | k
        · refine .inr (List.mem_cons.mpr (.inl (by omega)))
        · exact .inl (by omega)
      · exact .inr (List.mem_cons_of_mem _ h3)
theorem foldmin_is {l : List Int} {a m : Int} (hm : m ∈ l) (hle : ∀ y ∈ l, m ≤ y) (ha : ∀ y ∈ l, y ≤ a) : l.foldl min a = m := by
  obtain ⟨h1, h2, h3⟩ := foldmin_le l a
  have k1 := h2 m hm
  have k2 := ha m hm
  rcases h3 with h3 | h3
  · omega
  · have k3 := hle _ h3
    omega
theorem foldmax_is {l : List Int} {a m : Int} (hm : m ∈ l) (hle : ∀ y ∈ l, y ≤ m) (ha : ∀ y ∈ l, a ≤ y) : l.foldl max a = m := by
  obtain ⟨h1, h2, h3⟩ := foldmax_le l a
  have k1 := h2 m hm
  have k2 := ha m hm
  rcases h3 with h3 | h3
  · omega
  · have k3 := hle _ h3
    omega
/-- as the program asks it -/
def isSt (n len : Int) : Bool := decide (1 ≤ n) && (decide (n ≤ 4096) && (decide (n ≤ len) && decide (len ≤ 16 * n)))
theorem isSt_iff {n len : Int} : isSt n len = true ↔ 1 ≤ n ∧ n ≤ 4096 ∧ n ≤ len ∧ len ≤ 16 * n := by
  unfold isSt
  simp only [Bool.and_eq_true, decide_eq_true_iff]
theorem kBd {m k : Nat} (hm : 1 ≤ m) : (m ≤ m * k ↔ 1 ≤ k) ∧ (m * k ≤ 16 * m ↔ k ≤ 16) := by
  constructor
  · constructor
    · intro h
      rcases Nat.eq_zero_or_pos k with e | e
      · subst e
        omega
      · exact e
    · intro h
      exact Nat.le_mul_of_pos_right m h
  · rw [Nat.mul_comm 16 m]
    exact ⟨fun h => Nat.le_of_mul_le_mul_left h hm, fun h => Nat.mul_le_mul_left m h⟩
theorem isSt_ends {n : Int} {x : List Int} (hl : x.length = n.toNat * (x.length / n.toNat)) : isSt n (x.length : Int) = endsOk n x := by
  rw [Bool.eq_iff_iff, isSt_iff]
  unfold endsOk
  rw [Bool.and_eq_true, inR_iff, inR_iff]
  generalize x.length / n.toNat = k at hl
  constructor
  · rintro ⟨h1, h2, h3, h4⟩
    have b := kBd (m := n.toNat) (k := k) (by omega)
    refine ⟨⟨h1, h2⟩, ?_⟩
    rw [← hl] at b
    have := b.1.mp (by omega)
    have := b.2.mp (by omega)
    omega
  · rintro ⟨⟨h1, h2⟩, h3, h4⟩
    have b := kBd (m := n.toNat) (k := k) (by omega)
    rw [← hl] at b
    have := b.1.mpr (by omega)
    have := b.2.mpr (by omega)
    omega
theorem colX_bd {x : List Int} {n k i : Nat} {b : Int} (hx : ∀ a ∈ x, 0 ≤ a ∧ a ≤ b) (hb : 0 ≤ b) : ∀ y ∈ colX x n k i, 0 ≤ y ∧ y ≤ b := by
  intro y hy
  unfold colX at hy
  obtain ⟨j, _, rfl⟩ := List.mem_map.mp hy
  rw [List.getD_eq_getElem?_getD]
  cases e : x[j * n + i]? with
  | none => exact ⟨Int.le_refl _, hb⟩
  | some z => exact hx z (List.mem_of_getElem? e)
end Ps
/-! ### stack as the program has it -/
namespace Ps
theorem zip_col (x cov : List Int) (n k i : Nat) : (colX x n k i).zip (colX cov n k i) = (List.range k).map (pairX x cov n i) := by
  unfold colX
  rw [List.zip_map']
  rfl
theorem stackG_is (least q : Int) (x cov : List Int) (n k i : Nat) : stackG least q x cov n k i = meanP (keptP q (((colX x n k i).zip (colX cov n k i)).filter fun p => decide (max 1 least ≤ p.2))) := by
  rw [zip_col]
  rfl
theorem isSt_stack {n least q : Int} {x : List Int} (hl : x.length = n.toNat * (x.length / n.toNat)) : (isSt n (x.length : Int) && (decide (least ≤ 65535) && decide (q ≤ 256))) = stackOk n least q x := by
  rw [isSt_ends hl]
  unfold endsOk stackOk
  rw [Bool.and_assoc]
theorem sum_bd {b : Int} : ∀ {l : List Int}, (∀ y ∈ l, 0 ≤ y ∧ y ≤ b) → 0 ≤ l.sum ∧ l.sum ≤ b * (l.length : Int)
  | [], _ => by simp
  | a :: l, h => by
    have ih := sum_bd fun y hy => h y (List.mem_cons_of_mem _ hy)
    have ha := h a (List.mem_cons_self ..)
    rw [List.sum_cons, List.length_cons, Int.natCast_add, Int.mul_add]
    omega
theorem abs_apart (a b : Int) : (if b - a < 0 then -(b - a) else b - a) = apartZ a b := by
  unfold apartZ
  split <;> omega
theorem max_if (a b : Int) : (if b > a then b else a) = max a b := by
  split <;> omega
theorem min_if (a b : Int) : (if b < a then b else a) = min a b := by
  split <;> omega
theorem kept_nil (q : Int) : keptP q [] = [] := rfl
theorem keptP_sub {q : Int} {l : List (Int × Int)} {p : Int × Int} (h : p ∈ keptP q l) : p ∈ l := by
  unfold keptP at h
  exact (List.mem_filter.mp h).1
theorem keptP_len (q : Int) (l : List (Int × Int)) : (keptP q l).length ≤ l.length := by
  unfold keptP
  exact List.length_filter_le _ _
theorem told_stack (n : Int) (hn : 0 ≤ n) (f g h : Nat → Int) : (0 : Int) :: (n :: (List.range n.toNat).map f ++ (n :: (List.range n.toNat).map g ++ n :: (List.range n.toNat).map h)) = 0 :: ([(List.range n.toNat).map f, (List.range n.toNat).map g, (List.range n.toNat).map h] : List (List Int)).flatMap fun ns => (ns.length : Int) :: ns := by
  simp only [List.flatMap_cons, List.flatMap_nil, List.append_nil, List.length_map, List.length_range, Int.toNat_of_nonneg hn]
end Ps
namespace Ps
theorem zip_at {α β : Type} {l : List α} {m : List β} {i : Nat} {x : α} {y : β} (h1 : l[i]? = some x) (h2 : m[i]? = some y) : (l.zip m)[i]? = some (x, y) := List.getElem?_zip_eq_some.mpr ⟨h1, h2⟩
end Ps
/-! ### the text by places -/
namespace Ps
open PySem L2
def topS (i : Nat) : Stmt := PySem.Challenge.pw_picturestack_s03_sm_stack.main.body.getD i (.Pass ⟨0, 0, 0, 0⟩)
abbrev sRounded : Stmt := topS 7
abbrev sTold : Stmt := topS 8
abbrev sIsSt : Stmt := topS 9
abbrev sAtP : Stmt := topS 10
abbrev sMid : Stmt := topS 11
abbrev sFar : Stmt := topS 12
abbrev sSum : Stmt := topS 13
abbrev sStack : Stmt := topS 14
end Ps
/-! ### defs that several calls share -/
namespace Ps
open PySem PySem.Spec PyProof.Rows L2
theorem same_upd {H : Hp} {p : Addr} {o : HO} (h : H p = none) : Same H (upd H p o) := fun b x e => by
  rw [upd_ne (ne_of_none e h)]
  exact e
/-- a store to what was not tracked at the start -/
theorem same_put {H H1 : Hp} {p : Addr} {o : HO} (s : Same H H1) (h : H p = none) : Same H (upd H1 p o) := fun b x e => by
  rw [upd_ne (ne_of_none e h)]
  exact s _ _ e
theorem map_at {α β : Type} {f : α → β} {ns : List α} {i : Nat} {y : β} (hi : (ns.map f)[i]? = some y) : ∃ z, ns[i]? = some z ∧ y = f z := by
  rw [List.getElem?_map] at hi
  cases e : ns[i]? with
  | none =>
    rw [e] at hi
    cases hi
  | some z =>
    rw [e] at hi
    exact ⟨z, rfl, (Option.some.inj hi).symm⟩
theorem take_more {α : Type} {l : List α} {i : Nat} {x : α} (h : l[i]? = some x) : l.take (i + 1) = l.take i ++ [x] := by
  rw [List.take_add_one, h]
  rfl
/-- a name of the module that holds a whole number -/
theorem pe_gi {X : Cx} {x : Str} {pos : Pos} {i : Int} {t} (hg : Gl X x) (hm : X.mg x = some (.int i t)) (hd : (x == ("__debug__" : Str)) = false := by decide) : PE X (.Name x pos) (tC (.int i)) := pe_glob hg hm ⟨_, rfl⟩ hd
theorem line {n : Nat} (h : n ≤ 100000) : n < sizeLine := Nat.lt_of_le_of_lt h (by decide)
end Ps
/-! ### comprehensions, and lists of things that stand in the heap -/
namespace Ps
open PySem PySem.Spec PyProof.Rows L2
/-- one by one -/
def All2 {α β : Type} (R : α → β → Prop) : List α → List β → Prop
  | [], [] => True
  | v :: vs, x :: xs => R v x ∧ All2 R vs xs
  | [], _ :: _ => False
  | _ :: _, [] => False
section
variable {α β : Type} {R R' : α → β → Prop}
theorem All2.mono (k : ∀ v x, R v x → R' v x) : ∀ {vs : List α} {xs : List β}, All2 R vs xs → All2 R' vs xs
  | [], [], _ => trivial
  | _ :: _, _ :: _, h => ⟨k _ _ h.1, All2.mono k h.2⟩
  | [], _ :: _, h => False.elim h
  | _ :: _, [], h => False.elim h
theorem All2.len : ∀ {vs : List α} {xs : List β}, All2 R vs xs → vs.length = xs.length
  | [], [], _ => rfl
  | _ :: _, _ :: _, h => by
    rw [List.length_cons, List.length_cons, All2.len h.2]
  | [], _ :: _, h => False.elim h
  | _ :: _, [], h => False.elim h
theorem All2.snoc {v : α} {x : β} (q : R v x) : ∀ {vs : List α} {xs : List β}, All2 R vs xs → All2 R (vs ++ [v]) (xs ++ [x])
  | [], [], _ => ⟨q, trivial⟩
  | _ :: _, _ :: _, h => ⟨h.1, All2.snoc q h.2⟩
  | [], _ :: _, h => False.elim h
  | _ :: _, [], h => False.elim h
theorem All2.get : ∀ {vs : List α} {xs : List β} {i : Nat} {v : α}, All2 R vs xs → vs[i]? = some v → ∃ x, xs[i]? = some x ∧ R v x
  | [], [], i, v, _, e => by simp at e
  | u :: vs, x :: xs, 0, v, h, e => by
    have e2 : u = v := Option.some.inj e
    exact ⟨x, rfl, e2 ▸ h.1⟩
  | u :: vs, x :: xs, i + 1, v, h, e => All2.get (i := i) h.2 e
  | [], _ :: _, _, _, h, _ => False.elim h
  | _ :: _, [], _, _, h, _ => False.elim h
end
/-- the value is the whole number -/
def isI : Hp → V → Int → Prop := fun _ v x => v = .int x
/-- the value is an object that isn't at D -/
def isO {α : Type} (D : Addr) (o : α → HO) : Hp → V → α → Prop := fun H v x => ∃ a, a ≠ D ∧ v = .ref a ∧ H a = some (o x)
/-- the value is an object -/
def atO {α : Type} (o : α → HO) : Hp → V → α → Prop := fun H v x => ∃ a, v = .ref a ∧ H a = some (o x)
theorem isO.at {α : Type} {D : Addr} {o : α → HO} {H : Hp} {vs : List V} {xs : List α} (h : All2 (isO D o H) vs xs) : All2 (atO o H) vs xs := h.mono fun _ _ ⟨a, _, e, q⟩ => ⟨a, e, q⟩
theorem atO.same {α : Type} {o : α → HO} {H H' : Hp} {vs : List V} {xs : List α} (s : Same H H') (h : All2 (atO o H) vs xs) : All2 (atO o H') vs xs := h.mono fun _ _ ⟨a, e, q⟩ => ⟨a, e, s _ _ q⟩
theorem isI.map {H : Hp} : ∀ {vs : List V} {ns : List Int}, All2 (isI H) vs ns → vs = ns.map V.int
  | [], [], _ => rfl
  | v :: vs, n :: ns, h => by
    rw [List.map_cons, isI.map h.2]
    exact congrArg (· :: _) h.1
  | [], _ :: _, h => False.elim h
  | _ :: _, [], h => False.elim h
def Stable {α : Type} (D : Addr) (R : Hp → V → α → Prop) : Prop := ∀ H H' v x, (∀ b u, b ≠ D → H b = some u → H' b = some u) → R H v x → R H' v x
theorem stI {D : Addr} : Stable D isI := fun _ _ _ _ _ h => h
theorem stO {α : Type} {D : Addr} {o : α → HO} : Stable D (isO D o) := fun _ _ _ _ k ⟨a, n, e, q⟩ => ⟨a, n, e, k _ _ n q⟩
/-- a list is being made at D: after i turns it holds L i -/
def LcInv {α : Type} (H1 : Hp) (D : Addr) (R : Hp → V → α → Prop) (L : Nat → List α) (i : Nat) (H : Hp) : Prop := Same H1 H ∧ ∃ acc, H D = some (.lst acc) ∧ All2 (R H) acc (L i)
section
variable {α : Type} {H1 : Hp} {D : Addr} {R : Hp → V → α → Prop} {L : Nat → List α} {i : Nat} {H H' : Hp}
theorem lc0 (nD : H1 D = none) (e : L 0 = []) : LcInv H1 D R L 0 (upd H1 D (.lst [])) := by
  refine ⟨same_upd nD, [], upd_same, ?_⟩
  rw [e]
  trivial
theorem lcMore (st : Stable D R) (nD : H1 D = none) (inv : LcInv H1 D R L i H) (s : Same H H') {y : V} {z : α} (r : R H' y z) (e : L (i + 1) = L i ++ [z]) (room : (L i).length ≤ 100000) :
    ∃ acc, H' D = some (.lst acc) ∧ acc.length < sizeLine ∧ LcInv H1 D R L (i + 1) (upd H' D (.lst (acc ++ [y]))) := by
  obtain ⟨s1, acc, hd, ha⟩ := inv
  have put : ∀ b u, b ≠ D → H' b = some u → (upd H' D (.lst (acc ++ [y]))) b = some u := fun b u n q => by
    rw [upd_ne n]
    exact q
  refine ⟨acc, s _ _ hd, ?_, same_put (s1.trans s) nD, acc ++ [y], upd_same, ?_⟩
  · rw [ha.len]
    exact line room
  · rw [e]
    refine All2.snoc (st _ _ _ _ put r) (ha.mono fun v x q => ?_)
    exact st _ _ _ _ (fun b u n z => put b u n (s _ _ z)) q
theorem lcSkip (st : Stable D R) (inv : LcInv H1 D R L i H) (s : Same H H') (e : L (i + 1) = L i) : LcInv H1 D R L (i + 1) H' := by
  obtain ⟨s1, acc, hd, ha⟩ := inv
  refine ⟨s1.trans s, acc, s _ _ hd, ?_⟩
  rw [e]
  exact ha.mono fun v x q => st _ _ _ _ (fun b u _ z => s _ _ z) q
theorem lcNe (inv : LcInv H1 D R L i H) {p : Addr} (np : H p = none) : p ≠ D := fun e => by
  obtain ⟨_, acc, hd, _⟩ := inv
  rw [e, hd] at np
  cases np
theorem lcInts {L : Nat → List Int} (inv : LcInv H1 D isI L i H) : Same H1 H ∧ H D = some (.lst ((L i).map V.int)) := by
  obtain ⟨s1, acc, hd, ha⟩ := inv
  rw [isI.map ha] at hd
  exact ⟨s1, hd⟩
theorem lcObjs {o : α → HO} (inv : LcInv H1 D (isO D o) L i H) : Same H1 H ∧ ∃ acc, H D = some (.lst acc) ∧ All2 (atO o H) acc (L i) := by
  obtain ⟨s1, acc, hd, ha⟩ := inv
  exact ⟨s1, acc, hd, isO.at ha⟩
end
theorem take_map_more {α β : Type} {f : α → β} {l : List α} {i : Nat} {x : α} (h : l[i]? = some x) : (l.take (i + 1)).map f = (l.take i).map f ++ [f x] := by
  rw [take_more h, List.map_append]
  rfl
theorem take_filter_yes {α : Type} {f : α → Bool} {l : List α} {i : Nat} {x : α} (h : l[i]? = some x) (k : f x = true) : (l.take (i + 1)).filter f = (l.take i).filter f ++ [x] := by
  rw [take_more h, List.filter_append, List.filter_cons_of_pos k]
  rfl
theorem take_filter_no {α : Type} {f : α → Bool} {l : List α} {i : Nat} {x : α} (h : l[i]? = some x) (k : ¬ f x = true) : (l.take (i + 1)).filter f = (l.take i).filter f := by
  rw [take_more h, List.filter_append, List.filter_cons_of_neg k]
  simp
theorem range_more {α : Type} (f : Nat → α) (i : Nat) : (List.range (i + 1)).map f = (List.range i).map f ++ [f i] := by
  rw [List.range_succ, List.map_append]
  rfl
/-! a pair of whole numbers -/
def prO (p : Int × Int) : HO := .tup [.int p.1, .int p.2]
def lsO (ns : List Int) : HO := .lst (ns.map V.int)
end Ps
/-! ### a slice with a step -/
namespace Ps
open PySem PySem.Spec PyProof.Rows L2
def stepIx (n : Nat) (i c : Int) : List Nat := sliceRange (sliceBounds (some i) none (some c) n).1 (sliceBounds (some i) none (some c) n).2.1 (sliceBounds (some i) none (some c) n).2.2
def stepV (xs : List V) (i c : Int) : List V := (stepIx xs.length i c).filterMap (xs[·]?)
def tStep (K : PySem.W.Frag) (te : TE) (tl ts : TO) : TE := fun σ H Q => te σ H fun x H1 => tl σ H1 fun l H2 => ts σ H2 fun c H3 => ∃ a xs i k, x = .ref a ∧ l = some i ∧ c = some k ∧ k ≠ 0 ∧ SqL K H3 a xs ∧ (stepV xs i k).length ≤ sizeLine ∧ ∀ p, H3 p = none → Q (.ref p) (upd H3 p (.lst (stepV xs i k)))
theorem vals_pick {xs : List V} {its : List Value} (r : Vals xs its) : ∀ l : List Nat, Vals (l.filterMap (xs[·]?)) (l.filterMap (its[·]?))
  | [] => .nil
  | j :: l => by
    rw [List.filterMap_cons, List.filterMap_cons]
    cases e : xs[j]? with
    | none =>
      rw [r.none_of e]
      exact vals_pick r l
    | some x =>
      obtain ⟨u, h1, h2⟩ := r.get e
      rw [h1]
      exact .cons h2 (vals_pick r l)
theorem pe_step {X : Cx} {e st : Expr} {lo : Option Expr} {te : TE} {tl ts : TO} {p3 pos : Pos} (he : PE X e te) (hl : PO X lo tl) (hs : PO X (some st) ts) : PE X (.Subscript e (.Slice lo none (some st) p3) pos) (tStep X.K te tl ts) := by
  refine ⟨fun pins s σ H Q I h => ?_⟩
  refine Subscript_ (thn (he.run pins s σ H _ I h) fun v s1 ⟨x, H1, I1, r1, q1⟩ => ?_)
  refine wpAny_Slice (thn (hl.run pins s1 σ H1 _ I1 q1) fun vl s2 ⟨l, H2, I2, pl, q2⟩ => ?_)
  refine thn (po_none.run pins s2 σ H2 (fun o H3 => o = none ∧ H3 = H2) I2 ⟨rfl, rfl⟩) fun vu s3 ⟨u, H3, I3, pu, eu, e3⟩ => ?_
  subst eu e3
  refine thn (hs.run pins s3 σ H3 _ I3 q2) fun vs s4 ⟨o, H4, I4, ps, q4⟩ => ?_
  obtain ⟨a, xs, i, k, ex, el, eo, hk, hx, hz0, q⟩ := q4
  subst ex el eo
  cases r1
  have I5 : Inv X pins σ H4 { s4 with heap := s4.heap.push { cls := .type "slice", data := .fields #[vl, vu, vs] } } := I4.kept (t' := s4.toks) fun b ob q => Heap.get?_push_of_some _ q
  obtain ⟨its, r, ht, hz⟩ := I5.list hx
  have hlen := r.length
  show wpAny (model X.prog X.w) X.A (subscriptTail e (.Slice lo none (some st) p3) (.ref a) (.ref s4.heap.objs.size)) (EP X pins σ Q) X.xe { s4 with heap := s4.heap.push { cls := .type "slice", data := .fields #[vl, vu, vs] } }
  refine tail_any (ops := [.ref a, .ref s4.heap.objs.size]) ht.isList.typeIs (PySem.slot_list_getitem.lookup) ?_ (by with_unfolding_all rfl)
  refine wpAny_getItem_list_slice ht.isList (Heap.IsSliceOf.new _ vl vu vs) pl pu ps (fun z => hk (Option.some.inj z)) ?_ (by rw [List.size_toArray]; omega)
  have e1 : slicePick its.toArray (some i) none (some k) = ((stepIx xs.length i k).filterMap (its[·]?)).toArray := by
    unfold slicePick stepIx
    rw [List.size_toArray, hlen]
    congr 1
    refine congrArg (fun f => List.filterMap f _) (funext fun j => ?_)
    exact List.getElem?_toArray
  rw [e1]
  refine ⟨.ref _, _, I5.laid (t' := s4.toks) (o := .lst (stepV xs i k)) (fun b ob q => Heap.get?_push_of_some _ q) (Nat.le_refl _) ?_, rfl, q _ (I5.hok.fresh (Nat.le_refl _))⟩
  exact ⟨hz0, _, 0, vals_pick r _, Heap.get?_push_size _ rfl⟩
theorem filterMap_some {α β : Type} {f : α → Option β} {g : α → β} : ∀ {l : List α}, (∀ a ∈ l, f a = some (g a)) → l.filterMap f = l.map g
  | [], _ => rfl
  | a :: l, h => by
    rw [List.filterMap_cons, h a (List.mem_cons_self ..), List.map_cons, filterMap_some fun b hb => h b (List.mem_cons_of_mem _ hb)]
/-- x[place::n] of k pictures of n places -/
theorem step_col {x : List Int} {n : Int} {i k : Nat} (hn : 1 ≤ n) (hi : i < n.toNat) (hl : x.length = n.toNat * k) (hk : 1 ≤ k) : stepV (x.map V.int) (i : Int) n = (colX x n.toNat k i).map V.int := by
  obtain ⟨m, rfl⟩ : ∃ m : Nat, n = (m : Int) := ⟨n.toNat, by omega⟩
  rw [Int.toNat_natCast] at *
  have hm : m ≤ m * k := Nat.le_mul_of_pos_right m hk
  have hmk : m * k < m * (k + 1) := by
    rw [Nat.mul_succ]
    omega
  have b : sliceBounds (some (i : Int)) none (some (m : Int)) (m * k) = ((i : Int), ((m * k : Nat) : Int), (m : Int)) := by
    unfold sliceBounds
    simp only [Option.getD_some]
    have h1 : ¬ ((i : Int) < 0) := by omega
    have h2 : (m : Int) > 0 := by omega
    simp only [h1, h2, if_true, if_false]
    refine Prod.ext ?_ rfl
    show max 0 (min (i : Int) ((m * k : Nat) : Int)) = (i : Int)
    omega
  have c : (((m * k : Nat) : Int) - (i : Int) + (m : Int) - 1) / (m : Int) = (k : Int) := by
    have e : ((m * k : Nat) : Int) - (i : Int) + (m : Int) - 1 = ((m : Int) - 1 - (i : Int)) + (m : Int) * (k : Int) := by
      rw [Int.natCast_mul]
      omega
    rw [e, Int.add_mul_ediv_left _ _ (by omega), Int.ediv_eq_zero_of_lt (by omega) (by omega)]
    omega
  have ix : stepIx (m * k) (i : Int) (m : Int) = (List.range k).map fun j => j * m + i := by
    unfold stepIx
    rw [b]
    dsimp only
    unfold sliceRange
    have h1 : (i : Int) < ((m * k : Nat) : Int) := by omega
    have h2 : (m : Int) > 0 := by omega
    simp only [h1, h2, if_true, c, Int.toNat_natCast]
    refine List.map_congr_left fun j _ => ?_
    have e : (i : Int) + (m : Int) * (j : Int) = ((j * m + i : Nat) : Int) := by
      rw [Int.natCast_add, Int.natCast_mul, Int.mul_comm]
      omega
    rw [e, Int.toNat_natCast]
  unfold stepV
  rw [List.length_map, hl, ix, List.filterMap_map]
  unfold colX
  rw [List.map_map]
  refine filterMap_some fun j hj => ?_
  have hj := List.mem_range.mp hj
  have lt : j * m + i < x.length := by
    have h1 : (j + 1) * m ≤ k * m := Nat.mul_le_mul_right m hj
    rw [Nat.add_mul, Nat.one_mul, Nat.mul_comm k m] at h1
    omega
  show (x.map V.int)[j * m + i]? = some (V.int (x.getD (j * m + i) 0))
  rw [List.getElem?_map, list_at lt]
  rfl
theorem colX_len (x : List Int) (n k i : Nat) : (colX x n k i).length = k := by
  unfold colX
  rw [List.length_map, List.length_range]
end Ps
/-! ### rounded -/
namespace Ps
open PySem PySem.Spec PyProof.Rows L2
section
variable {P : Program} {w : World} {K : PySem.W.Frag} {mg : Str → Option Value} {base : Heap}
def rnd (a b : Int) : Int := if b = 0 then 0 else (2 * a + b) / (2 * b)
def spRnd : Sp := fun vs H Q _ => ∃ a b : Int, vs = [.int a, .int b] ∧ 0 ≤ b ∧ b ≤ 4294967296 ∧ Q (.int (rnd a b)) H
theorem scRnd : FnScope ["dividend", "divisor"] ["dividend", "divisor"] (defScope sRounded) := ⟨rfl, rfl, rfl, by decide +kernel, rfl, by decide +kernel, by decide +kernel⟩
theorem ok_rnd {f : Addr} {fd : FuncData} (F : Fun K "rounded" "rounded" sRounded f fd) : FnOk P w K mg base CX0 1 f fd ["dividend", "divisor"] spRnd := by
  refine F.ok scRnd (fun vs H Q E h => ?_) (fun cdv A outer s H vs Q E hr h => ?_)
  · obtain ⟨a, b, rfl, _⟩ := h
    rfl
  · obtain ⟨a, b, rfl, h1, h2, q⟩ := h
    refine ⟨_, pss_cons (ps_if (pt_cmpR op_eq (pv 1) pe_int (nomark _)) (pss_one (ps_ret pe_int)) pss_nil) (pss_one (ps_ret (pe_op op_fdivW (pe_op op_add (pe_op op_mul pe_int (pv 0)) (pv 1)) (pe_op op_mul pe_int (pv 1))))), ?_⟩
    refine ⟨_, rfl, rfl, _, rfl, ite2 (fun e => ?_) (fun e => ?_)⟩
    · have e0 : b = 0 := V.int.inj (of_decide_eq_true e)
      unfold rnd at q
      rw [if_pos e0] at q
      exact q
    · have e0 : ¬ b = 0 := fun z => e (decide_eq_true (congrArg V.int z))
      unfold rnd at q
      rw [if_neg e0] at q
      refine ⟨_, rfl, _, _, rfl, rfl, .inl ⟨by decide, by decide⟩, _, rfl, _, _, rfl, rfl, _, rfl, _, _, rfl, rfl, .inl ⟨by decide, by decide⟩, _, _, rfl, rfl, wide_div (b := 64) (by omega) ?_ (by decide) (by decide), q⟩
      show (2 * b).natAbs < 18446744073709551616
      omega
end
end Ps
/-! ### told -/
namespace Ps
open PySem PySem.Spec PyProof.Rows L2
section
variable {P : Program} {w : World} {K : PySem.W.Frag} {mg : Str → Option Value} {base : Heap}
def toldOf (nss : List (List Int)) : List Int := 0 :: nss.flatMap fun ns => (ns.length : Int) :: ns
theorem told_more {nss : List (List Int)} {i : Nat} {ns : List Int} (h : nss[i]? = some ns) : toldOf (nss.take (i + 1)) = (toldOf (nss.take i) ++ [(ns.length : Int)]) ++ ns := by
  unfold toldOf
  rw [take_more h, List.flatMap_append]
  simp
theorem told_le (nss : List (List Int)) (i : Nat) : (toldOf (nss.take i)).length ≤ (toldOf nss).length := by
  have e : toldOf nss = toldOf (nss.take i) ++ (nss.drop i).flatMap fun ns => (ns.length : Int) :: ns := by
    unfold toldOf
    rw [List.cons_append, ← List.flatMap_append, List.take_append_drop]
  rw [e, List.length_append]
  omega
def spTold (K : PySem.W.Frag) : Sp := fun vs H Q _ => ∃ (a : Addr) (rs : List V) (nss : List (List Int)), vs = [.ref a] ∧ SqL K H a rs ∧ All2 (atO lsO H) rs nss ∧ (toldOf nss).length ≤ 100000 ∧ ∀ H' p, Same H H' → H' p = some (.lst ((toldOf nss).map V.int)) → Q (.ref p) H'
theorem scTold : FnScope ["lists", "answer", "numbers"] ["lists"] (defScope sTold) := ⟨rfl, rfl, rfl, by decide +kernel, rfl, by decide +kernel, by decide +kernel⟩
theorem ok_told {f : Addr} {fd : FuncData} (F : Fun K "told" "told" sTold f fd) (mL : mg "len" = none) : FnOk P w K mg base CX0 1 f fd ["lists"] (spTold K) := by
  refine F.ok scTold (fun vs H Q E h => ?_) (fun cdv A outer s H vs Q E hr h => ?_)
  · obtain ⟨a, rs, nss, rfl, _⟩ := h
    rfl
  · obtain ⟨a, rs, nss, rfl, hS, hA, hlen, q⟩ := h
    refine ⟨_, pss_cons (ps_set (i := 1) scTold.nd rfl (Or.inl rfl) (pe_lst (pa_cons pe_int pa_nil)))
      (pss_cons (ps_for PassesOwn.never rfl (pi_list (pv 0)) (pg_name (i := 2) scTold.nd rfl (Or.inl rfl))
        (pss_cons (ps_expr (pe_bm PySem.F.plainAttrs_list PySem.F.slot_list_append PySem.F.type_list_append mt_append (pv 1) (pa_cons (pe_callB call_len_seq (by rfl) mL PySem.boot_len (pa_cons (pv 2) pa_nil)) pa_nil)))
          (pss_one (ps_expr (pe_bm PySem.F.plainAttrs_list PySem.F.slot_list_extend PySem.F.type_list_extend mt_extend (pv 1) (pa_cons (pv 2) pa_nil))))))
      (pss_one (ps_ret (pv 1)))), ?_⟩
    refine ⟨(by show 1 ≤ sizeLine; decide), fun p np => ?_⟩
    refine ⟨_, rfl, a, rfl, ⟨_, (same_upd np).seq hS⟩, for_list (K := K) (a := a) (xs := rs) (fun i σ H' => ∃ x2, σ = [some (.ref a), some (.ref p), x2] ∧ Same H H' ∧ H' p = some (.lst ((toldOf (nss.take i)).map V.int))) ⟨none, rfl, same_upd np, upd_same⟩ ?_ ?_ ?_⟩
    · rintro i σ H' _ ⟨x2, _, sm, _⟩
      exact sm.seq hS
    · rintro i v σ H' hi ⟨x2, rfl, sm, hp⟩
      obtain ⟨ns, hn, b, rfl, hb⟩ := hA.get hi
      have hbp : b ≠ p := ne_of_none hb np
      have le := told_le nss (i + 1)
      rw [told_more hn, List.length_append, List.length_append] at le
      refine ⟨_, rfl, .inl ⟨rfl, _, SqL.of hp⟩, _, rfl, b, _, rfl, .inl (SqL.of (sm _ _ hb)), p, _, _, rfl, rfl, hp, ?_, ?_⟩
      · rw [List.length_map]
        exact line (by omega)
      · have hb' : (upd H' p (.lst ((toldOf (nss.take i)).map V.int ++ [V.int ((ns.map V.int).length : Int)]))) b = some (lsO ns) := by
          rw [upd_ne hbp]
          exact sm _ _ hb
        refine ⟨_, rfl, .inl ⟨rfl, _, SqL.of upd_same⟩, _, rfl, p, b, _, _, rfl, rfl, upd_same, hb', ?_, ?_⟩
        · rw [List.length_append, List.length_map, List.length_map]
          exact Nat.le_of_lt (line (by show (toldOf (nss.take i)).length + 1 + ns.length ≤ 100000; exact Nat.le_trans le hlen))
        · refine ⟨_, rfl, same_put (same_put sm np) np, ?_⟩
          rw [upd_same, told_more hn, List.map_append, List.map_append, List.length_map]
          rfl
    · rintro σ H' ⟨x2, rfl, sm, hp⟩
      refine ⟨_, rfl, q H' p sm ?_⟩
      rw [hp, hA.len, List.take_length]
end
end Ps
/-! ### is_stack, at_place -/
namespace Ps
open PySem PySem.Spec PyProof.Rows L2
section
variable {P : Program} {w : World} {K : PySem.W.Frag} {mg : Str → Option Value} {base : Heap}
def spIsSt (K : PySem.W.Frag) : Sp := fun vs H Q _ => ∃ (n : Int) (a : Addr) (xs : List V), vs = [.int n, .ref a] ∧ SqL K H a xs ∧ Q (.bl (isSt n (xs.length : Int))) H
theorem scIsSt : FnScope ["n", "x"] ["n", "x"] (defScope sIsSt) := ⟨rfl, rfl, rfl, by decide +kernel, rfl, by decide +kernel, by decide +kernel⟩
theorem ok_isst {f : Addr} {fd : FuncData} {t1 t2} (F : Fun K "is_stack" "is_stack" sIsSt f fd) (cP : mg "PLACES_MOST" = some (.int 4096 t1)) (cM : mg "PICTURES_MOST" = some (.int 16 t2)) (mL : mg "len" = none) : FnOk P w K mg base CX0 1 f fd ["n", "x"] (spIsSt K) := by
  refine F.ok scIsSt (fun vs H Q E h => ?_) (fun cdv A outer s H vs Q E hr h => ?_)
  · obtain ⟨n, a, xs, rfl, _⟩ := h
    rfl
  · obtain ⟨n, a, xs, rfl, hS, q⟩ := h
    refine ⟨_, pss_one (ps_ret (pe_and (pe_chain op_le op_le pe_int (pv 0) (pe_gi (by rfl) cP)) (pe_one (pe_chain op_le op_le (pv 0) (pe_callB call_len_seq (by rfl) mL PySem.boot_len (pa_cons (pv 1) pa_nil)) (pe_op op_mul (pe_gi (by rfl) cM) (pv 0)))))), ?_⟩
    unfold isSt at q
    refine ⟨_, rfl, _, _, rfl, rfl, _, rfl, ite2 (fun e1 => ?_) (fun e1 => ?_)⟩
    · rw [e1, Bool.true_and] at q
      refine ⟨_, _, rfl, rfl, _, rfl, ite2 (fun e2 => ?_) (fun e2 => ?_)⟩
      · rw [e2, Bool.true_and] at q
        refine ⟨_, rfl, _, rfl, a, xs, rfl, .inl hS, _, _, rfl, rfl, _, rfl, ite2 (fun e3 => ?_) (fun e3 => ?_)⟩
        · rw [e3, Bool.true_and] at q
          exact ⟨_, rfl, _, _, rfl, rfl, .inl ⟨by decide, by decide⟩, _, _, rfl, rfl, q⟩
        · rw [Bool.not_eq_true _ |>.mp e3, Bool.false_and] at q
          exact q
      · rw [Bool.not_eq_true _ |>.mp e2, Bool.false_and] at q
        exact q
    · rw [Bool.not_eq_true _ |>.mp e1, Bool.false_and] at q
      exact ⟨_, rfl, iteF q⟩
def spAtP (K : PySem.W.Frag) : Sp := fun vs H Q _ => ∃ (i : Nat) (n : Int) (a : Addr) (x : List Int) (k : Nat), vs = [.int (i : Int), .int n, .ref a] ∧ SqL K H a (x.map V.int) ∧ 1 ≤ n ∧ i < n.toNat ∧ x.length = n.toNat * k ∧ 1 ≤ k ∧ k ≤ 16 ∧ ∀ p, H p = none → Q (.ref p) (upd H p (lsO (colX x n.toNat k i)))
theorem scAtP : FnScope ["place", "n", "x"] ["place", "n", "x"] (defScope sAtP) := ⟨rfl, rfl, rfl, by decide +kernel, rfl, by decide +kernel, by decide +kernel⟩
theorem ok_atp {f : Addr} {fd : FuncData} (F : Fun K "at_place" "at_place" sAtP f fd) : FnOk P w K mg base CX0 1 f fd ["place", "n", "x"] (spAtP K) := by
  refine F.ok scAtP (fun vs H Q E h => ?_) (fun cdv A outer s H vs Q E hr h => ?_)
  · obtain ⟨i, n, a, x, k, rfl, _⟩ := h
    rfl
  · obtain ⟨i, n, a, x, k, rfl, hS, hn, hi, hl, hk, hk2, q⟩ := h
    refine ⟨_, pss_one (ps_ret (pe_step (pv 2) (po_some (pv 0)) (po_some (pv 1)))), ?_⟩
    have e := step_col hn hi hl hk
    refine ⟨_, rfl, _, rfl, _, rfl, _, rfl, _, rfl, a, _, _, _, rfl, rfl, rfl, by omega, hS, ?_, fun p np => ?_⟩
    · rw [e, List.length_map, colX_len]
      exact Nat.le_of_lt (line (by omega))
    · rw [e]
      exact q p np
end
end Ps
/-! ### sm_stack -/
namespace Ps
open PySem PySem.Spec PyProof.Rows L2
section
variable {P : Program} {w : World} {K : PySem.W.Frag} {mg : Str → Option Value} {base : Heap}
/-! middle_one -/
def spMid (K : PySem.W.Frag) : Sp := fun vs H Q _ => ∃ (a : Addr) (ns : List Int), vs = [.ref a] ∧ SqL K H a (ns.map V.int) ∧ 0 < ns.length ∧ (∀ n ∈ ns, 0 ≤ n) ∧ ∀ H', Same H H' → Q (.int (med ns)) H'
theorem scMid : FnScope ["numbers"] ["numbers"] (defScope sMid) := ⟨rfl, rfl, rfl, by decide +kernel, rfl, by decide +kernel, by decide +kernel⟩
theorem ok_mid {f : Addr} {fd : FuncData} (F : Fun K "middle_one" "middle_one" sMid f fd) (mS : mg "sorted" = none) (mL : mg "len" = none) : FnOk P w K mg base CX0 1 f fd ["numbers"] (spMid K) := by
  refine F.ok scMid (fun vs H Q E h => ?_) (fun cdv A outer s H vs Q E hr h => ?_)
  · obtain ⟨a, ns, rfl, _⟩ := h
    rfl
  · obtain ⟨a, ns, rfl, hS, hpos, h0, q⟩ := h
    refine ⟨_, pss_one (ps_ret (pe_ix ix_list (pe_callB cr_sortedI (by rfl) mS (by decide +kernel) (pa_cons (pv 0) pa_nil)) (pe_op op_fdiv (pe_op op_sub (pe_callB call_len_seq (by rfl) mL PySem.boot_len (pa_cons (pv 0) pa_nil)) pe_int) pe_int) (fun _ _ => rfl))), ?_⟩
    refine ⟨_, rfl, a, ns, rfl, hS, fun ns' p perm rising np => ?_⟩
    have s1 := same_upd (o := .lst (ns'.map V.int)) np
    refine ⟨_, rfl, a, _, rfl, .inl (s1.seq hS), _, _, rfl, rfl, _, _, rfl, rfl, ⟨by decide, by decide⟩, p, _, _, V.int (med ns), rfl, rfl, SqL.of upd_same, ?_, q _ s1⟩
    refine at_of (j := (ns.length - 1) / 2) ?_ ?_
    · rw [List.length_map]
      omega
    · rw [List.getElem?_map, list_at (by rw [perm.length_eq]; omega), med_is h0 perm rising]
      rfl
/-! without_far_ones -/
def spFar (K : PySem.W.Frag) : Sp := fun vs H Q _ => ∃ (a : Addr) (z : Int) (us : List V) (l : List (Int × Int)), vs = [.ref a, .int z] ∧ SqL K H a us ∧ All2 (atO prO H) us l ∧ l.length ≤ 16 ∧ (∀ p ∈ l, 0 ≤ p.1 ∧ p.1 ≤ 65535) ∧ (0 ≤ z ∧ z ≤ 256) ∧
  ∀ H' p us', Same H H' → H' p = some (.lst us') → All2 (atO prO H') us' (keptP z l) → Q (.ref p) H'
abbrev nFar : List Str := ["samples", "q", "centre", "usual", "number", "cover"]
theorem scFar : FnScope nFar ["samples", "q"] (defScope sFar) := ⟨rfl, rfl, rfl, by decide +kernel, rfl, by decide +kernel, by decide +kernel⟩
theorem ok_far {f fM : Addr} {fd fdM : FuncData} {t1} (F : Fun K "without_far_ones" "without_far_ones" sFar f fd)
    (GM : FnOk P w K mg base CX0 1 fM fdM ["numbers"] (spMid K)) (gM : mg "middle_one" = some (.ref fM)) (kM : PySem.W.keepIn K (.ref fM) = true) (bM : Binds K fdM ["numbers"] [])
    (cQ : mg "QUARTERS" = some (.int 4 t1)) (mL : mg "len" = none) (mX : mg "max" = none) (mA : mg "abs" = none) : FnOk P w K mg base CX0 2 f fd ["samples", "q"] (spFar K) := by
  refine F.ok scFar (fun vs H Q E h => ?_) (fun cdv A outer s H vs Q E hr h => ?_)
  · obtain ⟨a, z, us, l, rfl, _⟩ := h
    rfl
  · obtain ⟨a, z, us, l, rfl, hS, hA, hlen, hl, hz, q⟩ := h
    refine ⟨_, pss_cons (ps_if (pt_cmpR op_eq (pe_callB call_len_seq (by rfl) mL PySem.boot_len (pa_cons (pv 0) pa_nil)) pe_int (nomark _)) (pss_one (ps_ret (pe_lst pa_nil))) pss_nil)
      (pss_cons (ps_set (i := 2) scFar.nd rfl (by first | exact Or.inl rfl | exact Or.inr rfl | exact Or.inr (Or.inl rfl) | decide) (pe_call GM hr (by rfl) gM kM bM .nil pass0 (pa_cons (pe_lc (own := [("number", 4), ("cover", 5)]) (g := gTup K 2 (gCons (gName 4) (gCons (gName 5) gNil))) (tt := tYes) rfl scFar.nd (pi_list (pv 0)) (blkOk_by (N := nFar) (sc := defScope sFar) (by decide +kernel))
        (fun _ _ _ _ _ => pg_tup rfl (pgs_cons (pg_name (i := 4) scFar.nd rfl (Or.inl rfl)) (pgs_cons (pg_name (i := 5) scFar.nd rfl (Or.inl rfl)) pgs_nil))) (fun _ _ _ _ _ => pts_nil) (fun _ _ _ _ _ => pv 4)) pa_nil)))
      (pss_cons (ps_set (i := 3) scFar.nd rfl (by first | exact Or.inl rfl | exact Or.inr rfl | exact Or.inr (Or.inl rfl) | decide) (pe_callB (call_max2 rfl) (by rfl) mX (by decide +kernel) (pa_cons pe_int (pa_cons (pe_call GM hr (by rfl) gM kM bM .nil pass0 (pa_cons (pe_lc (own := [("number", 4), ("cover", 5)]) (g := gTup K 2 (gCons (gName 4) (gCons (gName 5) gNil))) (tt := tYes) rfl scFar.nd (pi_list (pv 0)) (blkOk_by (N := nFar) (sc := defScope sFar) (by decide +kernel))
        (fun _ _ _ _ _ => pg_tup rfl (pgs_cons (pg_name (i := 4) scFar.nd rfl (Or.inl rfl)) (pgs_cons (pg_name (i := 5) scFar.nd rfl (Or.inl rfl)) pgs_nil))) (fun _ _ _ _ _ => pts_nil) (fun _ _ _ _ _ => pe_callB call_abs (by rfl) mA (by decide +kernel) (pa_cons (pe_op op_sub (pv 4) (pv 2)) pa_nil))) pa_nil)) pa_nil))))
      (pss_one (ps_ret (pe_lc (own := [("number", 4), ("cover", 5)]) (g := gTup K 2 (gCons (gName 4) (gCons (gName 5) gNil))) rfl scFar.nd (pi_list (pv 0)) (blkOk_by (N := nFar) (sc := defScope sFar) (by decide +kernel))
        (fun _ _ _ _ _ => pg_tup rfl (pgs_cons (pg_name (i := 4) scFar.nd rfl (Or.inl rfl)) (pgs_cons (pg_name (i := 5) scFar.nd rfl (Or.inl rfl)) pgs_nil)))
        (fun _ _ _ _ _ => pts_one (pt_cmpR op_le (pe_op op_mul (pe_gi (by rfl) cQ) (pe_callB call_abs (by rfl) mA (by decide +kernel) (pa_cons (pe_op op_sub (pv 4) (pv 2)) pa_nil))) (pe_op op_mul (pv 1) (pv 3)) (nomark _)))
        (fun _ _ _ _ _ => pe_tup (pa_cons (pv 4) (pa_cons (pv 5) pa_nil)))))))), ?_⟩
    have lus := hA.len
    refine ⟨_, rfl, a, _, rfl, .inl hS, rfl, _, rfl, ite2 (fun e => ?_) (fun e => ?_)⟩
    · have e0 : (us.length : Int) = 0 := V.int.inj (of_decide_eq_true e)
      have el : l = [] := List.eq_nil_of_length_eq_zero (by omega)
      subst el
      exact ⟨(by show 0 ≤ sizeLine; exact Nat.zero_le _), fun p np => q _ p [] (same_upd np) upd_same trivial⟩
    · have e0 : ¬ (us.length : Int) = 0 := fun y => e (decide_eq_true (congrArg V.int y))
      -- centre
      refine ⟨_, rfl, a, rfl, ⟨_, hS⟩, fun D1 nD1 => ?_⟩
      refine lc_list (K := K) (a := a) (xs := us) (LcInv H D1 isI (fun i => (l.take i).map fun p => p.1)) (lc0 nD1 rfl) (fun i H' _ inv => inv.1.seq hS) ?_ ?_
      · rintro i v H' hi inv
        obtain ⟨x, hx, T, rfl, hT⟩ := hA.get hi
        refine ⟨T, _, rfl, SqT.of (inv.1 _ _ hT), rfl, _, _, rfl, _, _, rfl, rfl, rfl, ?_⟩
        refine ⟨_, rfl, lcMore stI nD1 inv (Same.refl _) (z := x.1) rfl (take_map_more hx) ?_⟩
        rw [List.length_map, List.length_take]
        omega
      intro H1 inv1
      obtain ⟨s1, hD1⟩ := lcInts inv1
      rw [lus, List.take_length] at hD1
      refine ⟨D1, l.map fun p => p.1, rfl, SqL.of hD1, ?_, ?_, fun H2 s2 => ?_⟩
      · rw [List.length_map]
        omega
      · intro n hn
        obtain ⟨p, hp, rfl⟩ := List.mem_map.mp hn
        exact (hl p hp).1
      have s12 := s1.trans s2
      generalize hc : med (l.map fun p => p.1) = c
      -- usual
      refine ⟨_, rfl, a, rfl, ⟨_, s12.seq hS⟩, fun D2 nD2 => ?_⟩
      refine lc_list (K := K) (a := a) (xs := us) (LcInv H2 D2 isI (fun i => (l.take i).map fun p => apartZ c p.1)) (lc0 nD2 rfl) (fun i H' _ inv => inv.1.seq (s12.seq hS)) ?_ ?_
      · rintro i v H' hi inv
        obtain ⟨x, hx, T, rfl, hT⟩ := hA.get hi
        refine ⟨T, _, rfl, SqT.of (inv.1 _ _ (s12 _ _ hT)), rfl, _, _, rfl, _, _, rfl, rfl, rfl, ?_⟩
        refine ⟨_, rfl, _, rfl, _, _, rfl, rfl, _, rfl, lcMore stI nD2 inv (Same.refl _) (z := apartZ c x.1) (congrArg V.int (abs_apart c x.1)) (take_map_more hx) ?_⟩
        rw [List.length_map, List.length_take]
        omega
      intro H3 inv3
      obtain ⟨s3, hD2⟩ := lcInts inv3
      rw [lus, List.take_length] at hD2
      refine ⟨D2, l.map fun p => apartZ c p.1, rfl, SqL.of hD2, ?_, ?_, fun H4 s4 => ?_⟩
      · rw [List.length_map]
        omega
      · intro n hn
        obtain ⟨p, hp, rfl⟩ := List.mem_map.mp hn
        unfold apartZ
        omega
      refine ⟨_, _, rfl, ?_⟩
      rw [max_if]
      have s14 := s12.trans (s3.trans s4)
      have kp : keptP z l = l.filter fun p => decide (4 * apartZ c p.1 ≤ z * max 1 (med (l.map fun p => apartZ c p.1))) := by
        unfold keptP
        rw [hc]
      generalize max 1 (med (l.map fun p => apartZ c p.1)) = u at kp
      rw [kp] at q
      clear kp
      -- the near ones
      refine ⟨_, rfl, a, rfl, ⟨_, s14.seq hS⟩, fun D3 nD3 => ?_⟩
      refine lc_list (K := K) (a := a) (xs := us) (LcInv H4 D3 (isO D3 prO) (fun i => (l.take i).filter fun p => decide (4 * apartZ c p.1 ≤ z * u))) (lc0 nD3 rfl) (fun i H' _ inv => inv.1.seq (s14.seq hS)) ?_ ?_
      · rintro i v H' hi inv
        obtain ⟨x, hx, T, rfl, hT⟩ := hA.get hi
        refine ⟨T, _, rfl, SqT.of (inv.1 _ _ (s14 _ _ hT)), rfl, _, _, rfl, _, _, rfl, rfl, rfl, ?_⟩
        refine ⟨_, rfl, _, rfl, _, _, rfl, rfl, _, rfl, _, _, rfl, rfl, .inl ⟨by decide, by decide⟩, _, rfl, _, rfl, _, _, rfl, rfl, .inl ⟨by omega, by omega⟩, _, _, rfl, rfl, _, rfl, ?_⟩
        rw [abs_apart c x.1]
        refine ite2 (fun e => ?_) (fun e => ?_)
        · refine ⟨_, rfl, _, rfl, (by show 2 ≤ sizeLine; decide), fun p np => ?_⟩
          refine lcMore stO nD3 inv (same_upd np) (z := x) ⟨p, lcNe inv np, rfl, upd_same⟩ (take_filter_yes hx e) ?_
          refine Nat.le_trans (List.length_filter_le _ _) ?_
          rw [List.length_take]
          omega
        · exact lcSkip stO inv (Same.refl _) (take_filter_no hx e)
      intro H5 inv5
      obtain ⟨s5, acc, hD3, hA3⟩ := lcObjs inv5
      rw [lus, List.take_length] at hA3
      exact q H5 D3 acc (s14.trans s5) hD3 hA3
/-! summed -/
def trO (p : Int × Int × Int) : HO := .tup [.int p.1, .int p.2.1, .int p.2.2]
def sumOf (least z : Int) (xs cs : List Int) : Int × Int × Int := meanP (keptP z ((xs.zip cs).filter fun p => decide (max 1 least ≤ p.2)))
def spSum (K : PySem.W.Frag) : Sp := fun vs H Q _ => ∃ (a b : Addr) (least z : Int) (xs cs : List Int), vs = [.ref a, .ref b, .int least, .int z] ∧ SqL K H a (xs.map V.int) ∧ SqL K H b (cs.map V.int) ∧ xs.length ≤ 16 ∧ cs.length = xs.length ∧ (∀ x ∈ xs, 0 ≤ x ∧ x ≤ 65535) ∧ (∀ x ∈ cs, 0 ≤ x ∧ x ≤ 65535) ∧ (0 ≤ z ∧ z ≤ 256) ∧
  ∀ H' p, Same H H' → H' p = some (trO (sumOf least z xs cs)) → Q (.ref p) H'
abbrev nSum : List Str := ["numbers", "covers", "least", "q", "samples", "near", "together", "total", "number", "cover"]
theorem scSum : FnScope nSum ["numbers", "covers", "least", "q"] (defScope sSum) := ⟨rfl, rfl, rfl, by decide +kernel, rfl, by decide +kernel, by decide +kernel⟩
theorem ok_sum {f fF fR : Addr} {fd fdF fdR : FuncData} (F : Fun K "summed" "summed" sSum f fd)
    (GF : FnOk P w K mg base CX0 2 fF fdF ["samples", "q"] (spFar K)) (gF : mg "without_far_ones" = some (.ref fF)) (kF : PySem.W.keepIn K (.ref fF) = true) (bF : Binds K fdF ["samples", "q"] [])
    (GR : FnOk P w K mg base CX0 1 fR fdR ["dividend", "divisor"] spRnd) (gR : mg "rounded" = some (.ref fR)) (kR : PySem.W.keepIn K (.ref fR) = true) (bR : Binds K fdR ["dividend", "divisor"] [])
    (mL : mg "len" = none) (mX : mg "max" = none) (mZ : mg "zip" = none) (mS : mg "sum" = none) : FnOk P w K mg base CX0 3 f fd ["numbers", "covers", "least", "q"] (spSum K) := by
  refine F.ok scSum (fun vs H Q E h => ?_) (fun cdv A outer s H vs Q E hr h => ?_)
  · obtain ⟨a, b, least, z, xs, cs, rfl, _⟩ := h
    rfl
  · obtain ⟨a, b, least, z, xs, cs, rfl, hS, hC, hlen, hlc, hxs, hcs, hz, q⟩ := h
    have hr1 : Room 1 _ := hr.mono (by decide)
    refine ⟨_, pss_cons (ps_setLc (i := 4) (own := [("number", 8), ("cover", 9)]) (g := gTup K 2 (gCons (gName 8) (gCons (gName 9) gNil))) rfl scSum.nd rfl rfl (sw_true rfl rfl rfl (by decide +kernel)) (pi_zip (by rfl) mZ (pa_cons (pv 0) (pa_cons (pv 1) pa_nil))) (blkOk_by (N := nSum) (sc := defScope sSum) (by decide +kernel))
        (fun _ _ _ _ _ => pg_tup rfl (pgs_cons (pg_name (i := 8) scSum.nd rfl (Or.inl rfl)) (pgs_cons (pg_name (i := 9) scSum.nd rfl (Or.inl rfl)) pgs_nil)))
        (fun _ _ _ _ _ => pts_one (pt_cmpR op_ge (pv 9) (pe_callB (call_max2 rfl) (by rfl) mX (by decide +kernel) (pa_cons pe_int (pa_cons (pv 2) pa_nil))) (nomark _)))
        (fun _ _ _ _ _ => pe_tup (pa_cons (pv 8) (pa_cons (pv 9) pa_nil))))
      (pss_cons (ps_set (i := 5) scSum.nd rfl (Or.inl rfl) (pe_call GF hr (by rfl) gF kF bF .nil pass0 (pa_cons (pv 4) (pa_cons (pv 3) pa_nil))))
      (pss_cons (ps_set (i := 6) scSum.nd rfl (Or.inl rfl) (pe_callB (cr_sum rfl) (by rfl) mS (by decide +kernel) (pa_cons (pe_lc (own := [("number", 8), ("cover", 9)]) (g := gTup K 2 (gCons (gName 8) (gCons (gName 9) gNil))) (tt := tYes) rfl scSum.nd (pi_list (pv 5)) (blkOk_by (N := nSum) (sc := defScope sSum) (by decide +kernel))
        (fun _ _ _ _ _ => pg_tup rfl (pgs_cons (pg_name (i := 8) scSum.nd rfl (Or.inl rfl)) (pgs_cons (pg_name (i := 9) scSum.nd rfl (Or.inl rfl)) pgs_nil))) (fun _ _ _ _ _ => pts_nil) (fun _ _ _ _ _ => pv 9)) pa_nil)))
      (pss_cons (ps_set (i := 7) scSum.nd rfl (Or.inl rfl) (pe_callB (cr_sum rfl) (by rfl) mS (by decide +kernel) (pa_cons (pe_lc (own := [("number", 8), ("cover", 9)]) (g := gTup K 2 (gCons (gName 8) (gCons (gName 9) gNil))) (tt := tYes) rfl scSum.nd (pi_list (pv 5)) (blkOk_by (N := nSum) (sc := defScope sSum) (by decide +kernel))
        (fun _ _ _ _ _ => pg_tup rfl (pgs_cons (pg_name (i := 8) scSum.nd rfl (Or.inl rfl)) (pgs_cons (pg_name (i := 9) scSum.nd rfl (Or.inl rfl)) pgs_nil))) (fun _ _ _ _ _ => pts_nil) (fun _ _ _ _ _ => pe_op op_mul (pv 8) (pv 9))) pa_nil)))
      (pss_one (ps_ret (pe_tup (pa_cons (pe_call GR hr1 (by rfl) gR kR bR .nil pass0 (pa_cons (pv 7) (pa_cons (pv 6) pa_nil))) (pa_cons (pe_callB call_len_seq (by rfl) mL PySem.boot_len (pa_cons (pv 5) pa_nil)) (pa_cons (pv 6) pa_nil))))))))), ?_⟩
    -- samples
    refine ⟨_, rfl, _, rfl, a, b, _, _, rfl, hS, hC, fun D nD => ?_⟩
    refine lc_it (walk_zip (K := K) (a := a) (b := b) (xs := xs.map V.int) (ys := cs.map V.int) (n := xs.length) (by rw [List.length_map, List.length_map]; omega)) (LcInv H D (isO D prO) (fun i => ((xs.zip cs).take i).filter fun p => decide (max 1 least ≤ p.2))) (lc0 nD rfl) ?_ ?_ ?_
    · rintro i H' _ inv
      exact ⟨inv.1.seq hS, inv.1.seq hC⟩
    · rintro i x H' H'' hi inv ⟨T, x1, y1, rfl, nT, rfl, hx, hy⟩
      obtain ⟨sv, hs, rfl⟩ := map_at hx
      obtain ⟨mv, hm, rfl⟩ := map_at hy
      refine ⟨T, _, rfl, SqT.of upd_same, rfl, _, _, rfl, _, _, rfl, rfl, rfl, ?_⟩
      refine ⟨_, rfl, _, rfl, _, _, rfl, _, _, rfl, rfl, _, rfl, ?_⟩
      rw [max_if]
      have hzp := zip_at hs hm
      refine ite2 (fun e => ?_) (fun e => ?_)
      · refine ⟨_, rfl, _, rfl, (by show 2 ≤ sizeLine; decide), fun p np => ?_⟩
        have np' : H' p = none := by
          cases e9 : H' p with
          | none => rfl
          | some o =>
            rw [same_upd nT _ _ e9] at np
            cases np
        refine lcMore stO nD inv ((same_upd nT).trans (same_upd np)) (z := (sv, mv)) ⟨p, lcNe inv np', rfl, upd_same⟩ (take_filter_yes hzp e) ?_
        refine Nat.le_trans (List.length_filter_le _ _) ?_
        rw [List.length_take]
        omega
      · exact lcSkip stO inv (same_upd nT) (take_filter_no hzp e)
    intro H1 inv1
    obtain ⟨s1, us, hD, hA⟩ := lcObjs inv1
    have ez : (xs.zip cs).take xs.length = xs.zip cs := List.take_of_length_le (by rw [List.length_zip]; omega)
    rw [ez] at hA
    have lb : ∀ p ∈ (xs.zip cs).filter (fun p => decide (max 1 least ≤ p.2)), (0 ≤ p.1 ∧ p.1 ≤ 65535) ∧ (0 ≤ p.2 ∧ p.2 ≤ 65535) := fun p hp => by
      have h := List.of_mem_zip (List.mem_filter.mp hp).1
      exact ⟨hxs _ h.1, hcs _ h.2⟩
    have ll : ((xs.zip cs).filter (fun p => decide (max 1 least ≤ p.2))).length ≤ 16 := by
      refine Nat.le_trans (List.length_filter_le _ _) ?_
      rw [List.length_zip]
      omega
    have qe : sumOf least z xs cs = meanP (keptP z ((xs.zip cs).filter fun p => decide (max 1 least ≤ p.2))) := rfl
    rw [qe] at q
    clear qe
    generalize (xs.zip cs).filter (fun p => decide (max 1 least ≤ p.2)) = l at q hA lb ll
    -- near
    refine ⟨_, rfl, _, rfl, D, z, us, l, rfl, SqL.of hD, hA, ll, fun p hp => (lb p hp).1, hz, fun H2 N vs s2 hN hB => ?_⟩
    have kb : ∀ p ∈ keptP z l, (0 ≤ p.1 ∧ p.1 ≤ 65535) ∧ (0 ≤ p.2 ∧ p.2 ≤ 65535) := fun p hp => lb p (keptP_sub hp)
    have kl : (keptP z l).length ≤ 16 := Nat.le_trans (keptP_len z l) ll
    generalize keptP z l = k at q hB kb kl
    have lvs := hB.len
    -- together
    refine ⟨_, rfl, N, rfl, ⟨_, SqL.of hN⟩, fun D1 nD1 => ?_⟩
    refine lc_list (K := K) (a := N) (xs := vs) (LcInv H2 D1 isI (fun i => (k.take i).map fun p => p.2)) (lc0 nD1 rfl) (fun i H' _ inv => SqL.of (inv.1 _ _ hN)) ?_ ?_
    · rintro i v H' hi inv
      obtain ⟨x, hx, T, rfl, hT⟩ := hB.get hi
      refine ⟨T, _, rfl, SqT.of (inv.1 _ _ hT), rfl, _, _, rfl, _, _, rfl, rfl, rfl, ?_⟩
      refine ⟨_, rfl, lcMore stI nD1 inv (Same.refl _) (z := x.2) rfl (take_map_more hx) ?_⟩
      rw [List.length_map, List.length_take]
      omega
    intro H3 inv3
    obtain ⟨s3, hD1⟩ := lcInts inv3
    rw [lvs, List.take_length] at hD1
    refine ⟨D1, k.map fun p => p.2, rfl, SqL.of hD1, ?_⟩
    -- total
    refine ⟨_, rfl, N, rfl, ⟨_, SqL.of (s3 _ _ hN)⟩, fun D2 nD2 => ?_⟩
    refine lc_list (K := K) (a := N) (xs := vs) (LcInv H3 D2 isI (fun i => (k.take i).map fun p => p.1 * p.2)) (lc0 nD2 rfl) (fun i H' _ inv => SqL.of (inv.1 _ _ (s3 _ _ hN))) ?_ ?_
    · rintro i v H' hi inv
      obtain ⟨x, hx, T, rfl, hT⟩ := hB.get hi
      have bx := kb x (List.mem_of_getElem? hx)
      refine ⟨T, _, rfl, SqT.of (inv.1 _ _ (s3 _ _ hT)), rfl, _, _, rfl, _, _, rfl, rfl, rfl, ?_⟩
      refine ⟨_, rfl, _, rfl, _, _, rfl, rfl, .inl ⟨by omega, by omega⟩, lcMore stI nD2 inv (Same.refl _) (z := x.1 * x.2) rfl (take_map_more hx) ?_⟩
      rw [List.length_map, List.length_take]
      omega
    intro H4 inv4
    obtain ⟨s4, hD2⟩ := lcInts inv4
    rw [lvs, List.take_length] at hD2
    refine ⟨D2, k.map fun p => p.1 * p.2, rfl, SqL.of hD2, ?_⟩
    -- the answer
    have sb := sum_bd (b := 65535) (l := k.map fun p => p.2) fun y hy => by
      obtain ⟨p, hp, rfl⟩ := List.mem_map.mp hy
      exact (kb p hp).2
    rw [List.length_map] at sb
    refine ⟨_, rfl, _, rfl, (k.map fun p => p.1 * p.2).sum, (k.map fun p => p.2).sum, rfl, by omega, by omega, ?_⟩
    refine ⟨_, rfl, N, _, rfl, .inl (SqL.of (s4 _ _ (s3 _ _ hN))), _, rfl, (by show 3 ≤ sizeLine; decide), fun p np => ?_⟩
    refine q _ p (s1.trans (s2.trans (s3.trans (s4.trans (same_upd np))))) ?_
    rw [upd_same, lvs]
    rfl
/-! sm_stack -/
def spStack (K : PySem.W.Frag) : Sp := fun vs H Q _ => ∃ (n least z : Int) (a b : Addr) (x cov : List Int), vs = [.int n, .int least, .int z, .ref a, .ref b] ∧ SqL K H a (x.map V.int) ∧ SqL K H b (cov.map V.int) ∧ (x.length = n.toNat * (x.length / n.toNat) ∧ cov.length = x.length) ∧ (∀ y ∈ x, 0 ≤ y ∧ y ≤ 65535) ∧ (∀ y ∈ cov, 0 ≤ y ∧ y ≤ 65535) ∧ 0 ≤ z ∧
  ∀ H' p, H' p = some (.lst ((stackAns n least z x cov).map V.int)) → Q (.ref p) H'
abbrev nStack : List Str := ["n", "least", "q", "x", "cover", "found", "place", "one"]
theorem scStack : FnScope nStack ["n", "least", "q", "x", "cover"] (defScope sStack) := ⟨rfl, rfl, rfl, by decide +kernel, rfl, by decide +kernel, by decide +kernel⟩
theorem ok_stack {f fI fA fT fS : Addr} {fd fdI fdA fdT fdS : FuncData} {t1 t2 t3} (F : Fun K "sm_stack" "sm_stack" sStack f fd)
    (GI : FnOk P w K mg base CX0 1 fI fdI ["n", "x"] (spIsSt K)) (gI : mg "is_stack" = some (.ref fI)) (kI : PySem.W.keepIn K (.ref fI) = true) (bI : Binds K fdI ["n", "x"] [])
    (GA : FnOk P w K mg base CX0 1 fA fdA ["place", "n", "x"] (spAtP K)) (gA : mg "at_place" = some (.ref fA)) (kA : PySem.W.keepIn K (.ref fA) = true) (bA : Binds K fdA ["place", "n", "x"] [])
    (GT : FnOk P w K mg base CX0 1 fT fdT ["lists"] (spTold K)) (gT : mg "told" = some (.ref fT)) (kT : PySem.W.keepIn K (.ref fT) = true) (bT : Binds K fdT ["lists"] [])
    (GS : FnOk P w K mg base CX0 3 fS fdS ["numbers", "covers", "least", "q"] (spSum K)) (gS : mg "summed" = some (.ref fS)) (kS : PySem.W.keepIn K (.ref fS) = true) (bS : Binds K fdS ["numbers", "covers", "least", "q"] [])
    (cR : mg "REFUSED" = some (.int (-2) t1)) (cL : mg "LEAST_MOST" = some (.int 65535 t2)) (cQ : mg "QUARTERS_MOST" = some (.int 256 t3)) (mR : mg "range" = none) : FnOk P w K mg base CX0 4 f fd ["n", "least", "q", "x", "cover"] (spStack K) := by
  refine F.ok scStack (fun vs H Q E h => ?_) (fun cdv A outer s H vs Q E hr h => ?_)
  · obtain ⟨n, least, z, a, b, x, cov, rfl, _⟩ := h
    rfl
  · obtain ⟨n, least, z, a, b, x, cov, rfl, hS, hC, ⟨hlen, hlc⟩, hx, hcv, hz, q⟩ := h
    have hr1 : Room 1 _ := hr.mono (by decide)
    refine ⟨_, pss_cons (ps_if (pt_not (pw_and (pt_val (pe_call GI hr1 (by rfl) gI kI bI .nil pass0 (pa_cons (pv 0) (pa_cons (pv 3) pa_nil)))) (pw_and (pt_cmpR op_le (pv 1) (pe_gi (by rfl) cL) (nomark _)) (pw_and1 (pt_cmpR op_le (pv 2) (pe_gi (by rfl) cQ) (nomark _))))).pt) (pss_one (ps_ret (pe_lst (pa_cons (pe_gi (by rfl) cR) pa_nil)))) pss_nil)
      (pss_cons (ps_setLc (i := 5) (own := [("place", 6)]) (g := gName 6) (tt := tYes) (te := tCall (spSum K) [] E0 (tCons (tCall (spAtP K) [] E0 (tCons (tVar 6) (tCons (tVar 0) (tCons (tVar 3) tNil)))) (tCons (tCall (spAtP K) [] E0 (tCons (tVar 6) (tCons (tVar 0) (tCons (tVar 4) tNil)))) (tCons (tVar 1) (tCons (tVar 2) tNil))))) rfl scStack.nd rfl rfl (sw_true rfl rfl rfl (by decide +kernel)) (pi_range1 rfl mR (pa_cons (pv 0) pa_nil)) (blkOk_by (N := nStack) (sc := defScope sStack) (by decide +kernel))
        (fun _ _ _ _ _ => pg_name (i := 6) scStack.nd rfl (Or.inl rfl)) (fun _ _ _ _ _ => pts_nil) (fun _ _ _ _ _ => pe_call GS hr (by rfl) gS kS bS .nil pass0 (pa_cons (pe_call GA hr1 (by rfl) gA kA bA .nil pass0 (pa_cons (pv 6) (pa_cons (pv 0) (pa_cons (pv 3) pa_nil)))) (pa_cons (pe_call GA hr1 (by rfl) gA kA bA .nil pass0 (pa_cons (pv 6) (pa_cons (pv 0) (pa_cons (pv 4) pa_nil)))) (pa_cons (pv 1) (pa_cons (pv 2) pa_nil))))))
      (pss_one (ps_ret (pe_call GT hr1 (by rfl) gT kT bT .nil pass0 (pa_cons (pe_lst
        (pa_cons (pe_lc (own := [("one", 7)]) (g := gName 7) (tt := tYes) (te := tOp (rIxT K) (tVar 7) (tC (.int 0))) rfl scStack.nd (pi_list (pv 5)) (blkOk_by (N := nStack) (sc := defScope sStack) (by decide +kernel))
          (fun _ _ _ _ _ => pg_name (i := 7) scStack.nd rfl (Or.inl rfl)) (fun _ _ _ _ _ => pts_nil) (fun _ _ _ _ _ => pe_ix ix_tup (pv 7) pe_int (fun _ _ => rfl)))
        (pa_cons (pe_lc (own := [("one", 7)]) (g := gName 7) (tt := tYes) (te := tOp (rIxT K) (tVar 7) (tC (.int 1))) rfl scStack.nd (pi_list (pv 5)) (blkOk_by (N := nStack) (sc := defScope sStack) (by decide +kernel))
          (fun _ _ _ _ _ => pg_name (i := 7) scStack.nd rfl (Or.inl rfl)) (fun _ _ _ _ _ => pts_nil) (fun _ _ _ _ _ => pe_ix ix_tup (pv 7) pe_int (fun _ _ => rfl)))
        (pa_cons (pe_lc (own := [("one", 7)]) (g := gName 7) (tt := tYes) (te := tOp (rIxT K) (tVar 7) (tC (.int 2))) rfl scStack.nd (pi_list (pv 5)) (blkOk_by (N := nStack) (sc := defScope sStack) (by decide +kernel))
          (fun _ _ _ _ _ => pg_name (i := 7) scStack.nd rfl (Or.inl rfl)) (fun _ _ _ _ _ => pts_nil) (fun _ _ _ _ _ => pe_ix ix_tup (pv 7) pe_int (fun _ _ => rfl))) pa_nil)))) pa_nil))))), ?_⟩
    have bad : stackOk n least z x = false → ∀ p, H p = none → Q (.ref p) (upd H p (.lst [V.int (-2)])) := fun e p _ => by
      refine q _ p ?_
      unfold stackAns
      rw [e, if_neg Bool.false_ne_true]
      exact upd_same
    have ok' := isSt_stack (least := least) (q := z) hlen
    refine ⟨_, rfl, _, rfl, n, a, _, rfl, hS, _, rfl, ite2 (fun e1 => ?_) (fun e1 => ?_)⟩
    case refine_2 =>
      refine ⟨(by show 1 ≤ sizeLine; decide), bad ?_⟩
      rw [List.length_map] at e1
      rw [← ok', Bool.not_eq_true _ |>.mp e1]
      rfl
    rw [List.length_map] at e1
    rw [e1, Bool.true_and] at ok'
    refine ⟨_, rfl, _, _, rfl, rfl, _, rfl, ite2 (fun e2 => ?_) (fun e2 => ?_)⟩
    case refine_2 =>
      refine ⟨(by show 1 ≤ sizeLine; decide), bad ?_⟩
      rw [← ok', Bool.not_eq_true _ |>.mp e2]
      rfl
    rw [e2, Bool.true_and] at ok'
    refine ⟨_, rfl, _, _, rfl, rfl, _, rfl, ite2 (fun e3 => ?_) (fun e3 => ?_)⟩
    case refine_1 =>
      refine ⟨(by show 1 ≤ sizeLine; decide), bad ?_⟩
      rw [← ok']
      cases e4 : decide (z ≤ 256) with
      | false => rfl
      | true =>
        rw [e4] at e3
        cases e3
    have e4 : decide (z ≤ 256) = true := by
      cases e4 : decide (z ≤ 256) with
      | true => rfl
      | false =>
        rw [e4] at e3
        exact absurd rfl e3
    have ok : stackOk n least z x = true := ok'.symm.trans e4
    have hz2 : z ≤ 256 := of_decide_eq_true e4
    have ok2 := ok
    unfold stackOk at ok2
    rw [Bool.and_eq_true, Bool.and_eq_true, inR_iff, inR_iff] at ok2
    obtain ⟨⟨hn1, hn2⟩, ⟨hk1, hk2⟩, _⟩ := ok2
    have qe : stackAns n least z x cov = toldOf [(List.range n.toNat).map (fun i => (stackG least z x cov n.toNat (x.length / n.toNat) i).1), (List.range n.toNat).map (fun i => (stackG least z x cov n.toNat (x.length / n.toNat) i).2.1), (List.range n.toNat).map (fun i => (stackG least z x cov n.toNat (x.length / n.toNat) i).2.2)] := by
      unfold stackAns toldOf
      rw [if_pos ok]
      exact told_stack n (by omega) _ _ _
    rw [qe] at q
    clear qe bad ok'
    generalize x.length / n.toNat = k at q hlen hk1 hk2
    -- found
    refine ⟨_, rfl, n, rfl, by omega, by omega, fun D nD => ?_⟩
    refine lc_range (lo := 0) (n := n.toNat) (LcInv H D (isO D trO) (fun i => (List.range i).map (stackG least z x cov n.toNat k))) (lc0 nD rfl) ?_ ?_
    · rintro i H' hi inv
      obtain ⟨acc, hd, _⟩ := id inv.2
      refine ⟨rfl, ?_⟩
      refine ⟨_, rfl, _, rfl, _, rfl, i, n, a, x, k, ?_, inv.1.seq hS, hn1, hi, hlen, by omega, by omega, fun p1 np1 => ?_⟩
      · rw [Int.zero_add]
        rfl
      have t1 := same_upd (o := lsO (colX x n.toNat k i)) np1
      refine ⟨_, rfl, _, rfl, _, rfl, i, n, b, cov, k, ?_, t1.seq (inv.1.seq hC), hn1, hi, by omega, by omega, by omega, fun p2 np2 => ?_⟩
      · rw [Int.zero_add]
        rfl
      have t2 := same_upd (o := lsO (colX cov n.toNat k i)) np2
      refine ⟨_, rfl, _, rfl, p1, p2, least, z, colX x n.toNat k i, colX cov n.toNat k i, rfl, SqL.of (t2 _ _ upd_same), SqL.of upd_same, ?_, ?_, colX_bd hx (by decide), colX_bd hcv (by decide), ⟨hz, hz2⟩, fun H2 p s2 hp => ?_⟩
      · rw [colX_len]
        omega
      · rw [colX_len, colX_len]
      have st := t1.trans (t2.trans s2)
      refine lcMore stO nD inv st (z := stackG least z x cov n.toNat k i) ⟨p, ?_, rfl, ?_⟩ (range_more _ i) ?_
      · exact ne_of hp (st _ _ hd) (by intro y; cases y)
      · rw [hp, stackG_is]
        rfl
      · rw [List.length_map, List.length_range]
        omega
    intro H1 inv
    obtain ⟨s1, us, hD, hA⟩ := lcObjs inv
    have lus : us.length = n.toNat := by
      rw [hA.len, List.length_map, List.length_range]
    have get : ∀ {i : Nat} {v : V}, us[i]? = some v → i < n.toNat ∧ ∃ T, v = .ref T ∧ H1 T = some (trO (stackG least z x cov n.toNat k i)) := fun {i v} hi => by
      have lt : i < n.toNat := by
        have := (List.getElem?_eq_some_iff.mp hi).1
        omega
      obtain ⟨c, hc, T, rfl, hT⟩ := hA.get hi
      obtain ⟨j, hj, rfl⟩ := map_at hc
      rw [List.getElem?_range lt] at hj
      cases hj
      exact ⟨lt, T, rfl, hT⟩
    -- the three lists
    refine ⟨_, rfl, D, rfl, ⟨_, SqL.of hD⟩, fun D1 nD1 => ?_⟩
    refine lc_list (K := K) (a := D) (xs := us) (LcInv H1 D1 isI (fun i => (List.range i).map fun i => (stackG least z x cov n.toNat k i).1)) (lc0 nD1 rfl) (fun i H' _ inv => SqL.of (inv.1 _ _ hD)) ?_ ?_
    · rintro i v H' hi inv
      obtain ⟨lt, T, rfl, hT⟩ := get hi
      refine ⟨rfl, ?_⟩
      refine ⟨_, rfl, T, _, 0, V.int (stackG least z x cov n.toNat k i).1, rfl, rfl, SqT.of (inv.1 _ _ hT), atI_nat (j := 0) rfl, lcMore stI nD1 inv (Same.refl _) (z := (stackG least z x cov n.toNat k i).1) rfl (range_more _ i) ?_⟩
      rw [List.length_map, List.length_range]
      omega
    intro H2 inv2
    obtain ⟨s2, hD1⟩ := lcInts inv2
    refine ⟨_, rfl, D, rfl, ⟨_, SqL.of (s2 _ _ hD)⟩, fun D2 nD2 => ?_⟩
    refine lc_list (K := K) (a := D) (xs := us) (LcInv H2 D2 isI (fun i => (List.range i).map fun i => (stackG least z x cov n.toNat k i).2.1)) (lc0 nD2 rfl) (fun i H' _ inv => SqL.of (inv.1 _ _ (s2 _ _ hD))) ?_ ?_
    · rintro i v H' hi inv
      obtain ⟨lt, T, rfl, hT⟩ := get hi
      refine ⟨rfl, ?_⟩
      refine ⟨_, rfl, T, _, 1, V.int (stackG least z x cov n.toNat k i).2.1, rfl, rfl, SqT.of (inv.1 _ _ (s2 _ _ hT)), atI_nat (j := 1) rfl, lcMore stI nD2 inv (Same.refl _) (z := (stackG least z x cov n.toNat k i).2.1) rfl (range_more _ i) ?_⟩
      rw [List.length_map, List.length_range]
      omega
    intro H3 inv3
    obtain ⟨s3, hD2⟩ := lcInts inv3
    refine ⟨_, rfl, D, rfl, ⟨_, SqL.of (s3 _ _ (s2 _ _ hD))⟩, fun D3 nD3 => ?_⟩
    refine lc_list (K := K) (a := D) (xs := us) (LcInv H3 D3 isI (fun i => (List.range i).map fun i => (stackG least z x cov n.toNat k i).2.2)) (lc0 nD3 rfl) (fun i H' _ inv => SqL.of (inv.1 _ _ (s3 _ _ (s2 _ _ hD)))) ?_ ?_
    · rintro i v H' hi inv
      obtain ⟨lt, T, rfl, hT⟩ := get hi
      refine ⟨rfl, ?_⟩
      refine ⟨_, rfl, T, _, 2, V.int (stackG least z x cov n.toNat k i).2.2, rfl, rfl, SqT.of (inv.1 _ _ (s3 _ _ (s2 _ _ hT))), atI_nat (j := 2) rfl, lcMore stI nD3 inv (Same.refl _) (z := (stackG least z x cov n.toNat k i).2.2) rfl (range_more _ i) ?_⟩
      rw [List.length_map, List.length_range]
      omega
    intro H4 inv4
    obtain ⟨s4, hD3⟩ := lcInts inv4
    rw [lus] at hD1 hD2 hD3
    refine ⟨(by show 3 ≤ sizeLine; decide), fun p np => ?_⟩
    have s5 := same_upd (o := .lst [V.ref D1, V.ref D2, V.ref D3]) np
    refine ⟨p, [V.ref D1, V.ref D2, V.ref D3], [(List.range n.toNat).map (fun i => (stackG least z x cov n.toNat k i).1), (List.range n.toNat).map (fun i => (stackG least z x cov n.toNat k i).2.1), (List.range n.toNat).map (fun i => (stackG least z x cov n.toNat k i).2.2)], rfl, SqL.of upd_same,
      ⟨⟨D1, rfl, s5 _ _ (s4 _ _ (s3 _ _ hD1))⟩, ⟨D2, rfl, s5 _ _ (s4 _ _ hD2)⟩, ⟨D3, rfl, s5 _ _ hD3⟩, trivial⟩, ?_, fun H' p' _ hp' => q H' p' hp'⟩
    unfold toldOf
    simp only [List.flatMap_cons, List.flatMap_nil, List.append_nil, List.length_cons, List.length_append, List.length_map, List.length_range]
    omega
end
end Ps
/-! ### the end -/
namespace Ps
open PySem PySem.Spec PyProof.Rows L2
theorem all_mk {P : Program} {w : World} {K : PySem.W.Frag} {h : Heap} {mg : Str → Option Value} {fa f1 f2 f3 f4 f5 f6 f7 f8 : Addr} (X : K.In h) (G : h.Ns mainGlobals mg) (hfa : mg "sm_stack" = some (.ref fa)) {tREFUSED} {tPLACES_MOST} {tPICTURES_MOST} {tLEAST_MOST} {tQUARTERS} {tQUARTERS_MOST}
    {od1 an1 od2 an2 od3 an3 od4 an4 od5 an5 od6 an6 od7 an7 od8 an8 : Option Addr} {sl1 sl2 sl3 sl4 sl5 sl6 sl7 sl8 : Array (Option Value)} {oc1 kV1 dc1 pm1 cd1 ct1 oc2 kV2 dc2 pm2 cd2 ct2 oc3 kV3 dc3 pm3 cd3 ct3 oc4 kV4 dc4 pm4 cd4 ct4 oc5 kV5 dc5 pm5 cd5 ct5 oc6 kV6 dc6 pm6 cd6 ct6 oc7 kV7 dc7 pm7 cd7 ct7 oc8 kV8 dc8 pm8 cd8 ct8 : Value}
    (a1 : PySem.W.nsIn K mainGlobals "rounded" = some (some (.ref f1))) (l1 : K.lookup f1 = some ⟨oc1, od1, .func (PySem.W.fnOf "rounded" "rounded" (defArgs sRounded) (defBody sRounded) (defScope sRounded) .none kV1 dc1 pm1 an1 cd1 ct1), sl1⟩) (c1 : PySem.W.codeIn K cd1 "rounded" = true) (k1 : PySem.W.keepIn K (.ref f1) = true)
    (a2 : PySem.W.nsIn K mainGlobals "told" = some (some (.ref f2))) (l2 : K.lookup f2 = some ⟨oc2, od2, .func (PySem.W.fnOf "told" "told" (defArgs sTold) (defBody sTold) (defScope sTold) .none kV2 dc2 pm2 an2 cd2 ct2), sl2⟩) (c2 : PySem.W.codeIn K cd2 "told" = true) (k2 : PySem.W.keepIn K (.ref f2) = true)
    (a3 : PySem.W.nsIn K mainGlobals "is_stack" = some (some (.ref f3))) (l3 : K.lookup f3 = some ⟨oc3, od3, .func (PySem.W.fnOf "is_stack" "is_stack" (defArgs sIsSt) (defBody sIsSt) (defScope sIsSt) .none kV3 dc3 pm3 an3 cd3 ct3), sl3⟩) (c3 : PySem.W.codeIn K cd3 "is_stack" = true) (k3 : PySem.W.keepIn K (.ref f3) = true)
    (a4 : PySem.W.nsIn K mainGlobals "at_place" = some (some (.ref f4))) (l4 : K.lookup f4 = some ⟨oc4, od4, .func (PySem.W.fnOf "at_place" "at_place" (defArgs sAtP) (defBody sAtP) (defScope sAtP) .none kV4 dc4 pm4 an4 cd4 ct4), sl4⟩) (c4 : PySem.W.codeIn K cd4 "at_place" = true) (k4 : PySem.W.keepIn K (.ref f4) = true)
    (a5 : PySem.W.nsIn K mainGlobals "middle_one" = some (some (.ref f5))) (l5 : K.lookup f5 = some ⟨oc5, od5, .func (PySem.W.fnOf "middle_one" "middle_one" (defArgs sMid) (defBody sMid) (defScope sMid) .none kV5 dc5 pm5 an5 cd5 ct5), sl5⟩) (c5 : PySem.W.codeIn K cd5 "middle_one" = true) (k5 : PySem.W.keepIn K (.ref f5) = true)
    (a6 : PySem.W.nsIn K mainGlobals "without_far_ones" = some (some (.ref f6))) (l6 : K.lookup f6 = some ⟨oc6, od6, .func (PySem.W.fnOf "without_far_ones" "without_far_ones" (defArgs sFar) (defBody sFar) (defScope sFar) .none kV6 dc6 pm6 an6 cd6 ct6), sl6⟩) (c6 : PySem.W.codeIn K cd6 "without_far_ones" = true) (k6 : PySem.W.keepIn K (.ref f6) = true)
    (a7 : PySem.W.nsIn K mainGlobals "summed" = some (some (.ref f7))) (l7 : K.lookup f7 = some ⟨oc7, od7, .func (PySem.W.fnOf "summed" "summed" (defArgs sSum) (defBody sSum) (defScope sSum) .none kV7 dc7 pm7 an7 cd7 ct7), sl7⟩) (c7 : PySem.W.codeIn K cd7 "summed" = true) (k7 : PySem.W.keepIn K (.ref f7) = true)
    (a8 : PySem.W.nsIn K mainGlobals "sm_stack" = some (some (.ref f8))) (l8 : K.lookup f8 = some ⟨oc8, od8, .func (PySem.W.fnOf "sm_stack" "sm_stack" (defArgs sStack) (defBody sStack) (defScope sStack) .none kV8 dc8 pm8 an8 cd8 ct8), sl8⟩) (c8 : PySem.W.codeIn K cd8 "sm_stack" = true) (k8 : PySem.W.keepIn K (.ref f8) = true)
    (gREFUSED : PySem.W.nsIn K mainGlobals "REFUSED" = some (some (.int (-2) tREFUSED)))
    (gPLACES_MOST : PySem.W.nsIn K mainGlobals "PLACES_MOST" = some (some (.int 4096 tPLACES_MOST)))
    (gPICTURES_MOST : PySem.W.nsIn K mainGlobals "PICTURES_MOST" = some (some (.int 16 tPICTURES_MOST)))
    (gLEAST_MOST : PySem.W.nsIn K mainGlobals "LEAST_MOST" = some (some (.int 65535 tLEAST_MOST)))
    (gQUARTERS : PySem.W.nsIn K mainGlobals "QUARTERS" = some (some (.int 4 tQUARTERS)))
    (gQUARTERS_MOST : PySem.W.nsIn K mainGlobals "QUARTERS_MOST" = some (some (.int 256 tQUARTERS_MOST)))
    (zlen : PySem.W.nsIn K mainGlobals "len" = some none)
    (zrange : PySem.W.nsIn K mainGlobals "range" = some none)
    (zsorted : PySem.W.nsIn K mainGlobals "sorted" = some none)
    (zmax : PySem.W.nsIn K mainGlobals "max" = some none)
    (zabs : PySem.W.nsIn K mainGlobals "abs" = some none)
    (zzip : PySem.W.nsIn K mainGlobals "zip" = some none)
    (zsum : PySem.W.nsIn K mainGlobals "sum" = some none)
    : ∃ fd : FuncData, (∀ (s : Shared) (us : List Value), us.length = (["n", "least", "q", "x", "cover"] : List Str).length → BindsTo s fd ⟨us, []⟩ ((["n", "least", "q", "x", "cover"] : List Str).zip us)) ∧ ∀ base : Heap, K.In base → base.Ns mainGlobals mg → FnOk P w K mg base CX0 4 fa fd ["n", "least", "q", "x", "cover"] (spStack K) := by
  have e := hfa.symm.trans (PySem.W.mg_of X G a8)
  cases e
  have F_rounded := fun_mk (st := sRounded) l1 c1 k1
  have k_rounded := k1
  have g_rounded := PySem.W.mg_of X G a1
  have b_rounded := F_rounded.binds (ps := ["dividend", "divisor"]) fun _ _ _ _ _ _ us hl => match us, hl with | [_, _], _ => rfl
  have F_told := fun_mk (st := sTold) l2 c2 k2
  have k_told := k2
  have g_told := PySem.W.mg_of X G a2
  have b_told := F_told.binds (ps := ["lists"]) fun _ _ _ _ _ _ us hl => match us, hl with | [_], _ => rfl
  have F_is_stack := fun_mk (st := sIsSt) l3 c3 k3
  have k_is_stack := k3
  have g_is_stack := PySem.W.mg_of X G a3
  have b_is_stack := F_is_stack.binds (ps := ["n", "x"]) fun _ _ _ _ _ _ us hl => match us, hl with | [_, _], _ => rfl
  have F_at_place := fun_mk (st := sAtP) l4 c4 k4
  have k_at_place := k4
  have g_at_place := PySem.W.mg_of X G a4
  have b_at_place := F_at_place.binds (ps := ["place", "n", "x"]) fun _ _ _ _ _ _ us hl => match us, hl with | [_, _, _], _ => rfl
  have F_middle_one := fun_mk (st := sMid) l5 c5 k5
  have k_middle_one := k5
  have g_middle_one := PySem.W.mg_of X G a5
  have b_middle_one := F_middle_one.binds (ps := ["numbers"]) fun _ _ _ _ _ _ us hl => match us, hl with | [_], _ => rfl
  have F_without_far_ones := fun_mk (st := sFar) l6 c6 k6
  have k_without_far_ones := k6
  have g_without_far_ones := PySem.W.mg_of X G a6
  have b_without_far_ones := F_without_far_ones.binds (ps := ["samples", "q"]) fun _ _ _ _ _ _ us hl => match us, hl with | [_, _], _ => rfl
  have F_summed := fun_mk (st := sSum) l7 c7 k7
  have k_summed := k7
  have g_summed := PySem.W.mg_of X G a7
  have b_summed := F_summed.binds (ps := ["numbers", "covers", "least", "q"]) fun _ _ _ _ _ _ us hl => match us, hl with | [_, _, _, _], _ => rfl
  have F_sm_stack := fun_mk (st := sStack) l8 c8 k8
  have k_sm_stack := k8
  have g_sm_stack := PySem.W.mg_of X G a8
  have b_sm_stack := F_sm_stack.binds (ps := ["n", "least", "q", "x", "cover"]) fun _ _ _ _ _ _ us hl => match us, hl with | [_, _, _, _, _], _ => rfl
  have c_REFUSED := PySem.W.mg_of X G gREFUSED
  have c_PLACES_MOST := PySem.W.mg_of X G gPLACES_MOST
  have c_PICTURES_MOST := PySem.W.mg_of X G gPICTURES_MOST
  have c_LEAST_MOST := PySem.W.mg_of X G gLEAST_MOST
  have c_QUARTERS := PySem.W.mg_of X G gQUARTERS
  have c_QUARTERS_MOST := PySem.W.mg_of X G gQUARTERS_MOST
  have z_len := PySem.W.mg_none_of X G zlen
  have z_range := PySem.W.mg_none_of X G zrange
  have z_sorted := PySem.W.mg_none_of X G zsorted
  have z_max := PySem.W.mg_none_of X G zmax
  have z_abs := PySem.W.mg_none_of X G zabs
  have z_zip := PySem.W.mg_none_of X G zzip
  have z_sum := PySem.W.mg_none_of X G zsum
  exact ⟨PySem.W.fnOf "sm_stack" "sm_stack" (defArgs sStack) (defBody sStack) (defScope sStack) .none kV8 dc8 pm8 an8 cd8 ct8, fun s us hu => match us, hu with | [_, _, _, _, _], _ => .of_eq rfl, fun base _ _ =>
    ok_stack F_sm_stack (ok_isst F_is_stack c_PLACES_MOST c_PICTURES_MOST z_len) g_is_stack k_is_stack b_is_stack (ok_atp F_at_place) g_at_place k_at_place b_at_place (ok_told F_told z_len) g_told k_told b_told
      (ok_sum F_summed (ok_far F_without_far_ones (ok_mid F_middle_one z_sorted z_len) g_middle_one k_middle_one b_middle_one c_QUARTERS z_len z_max z_abs) g_without_far_ones k_without_far_ones b_without_far_ones (ok_rnd F_rounded) g_rounded k_rounded b_rounded z_len z_max z_zip z_sum) g_summed k_summed b_summed
      c_REFUSED c_LEAST_MOST c_QUARTERS_MOST z_range⟩
end Ps
open PySem PySem.W PyProof.Rows
set_option maxRecDepth 100000 in
set_option maxHeartbeats 8000000 in
theorem PySem.Challenge.cw_picturestack_s03_sm_stack_holds : PySem.Challenge.rw_picturestack_s03_sm_stack.Holds := by
  w_on; k_headS; (case hw => exact ⟨[.int 0, .int 0, .int 0, .list [], .list []], by decide +kernel, by decide +kernel⟩)
  k_fillS
  refine L2.walk_specK (r := PySem.Challenge.rw_picturestack_s03_sm_stack) (k := 4) (CX := L2.CX0) (ps := ["n", "least", "q", "x", "cover"]) (sp := Ps.spStack) (by decide +kernel) rfl rfl ⟨rfl, by decide, by decide⟩ (fun w h Y => PySem.W.kIn_of Y) ?F ?S (fun _ _ _ _ z => z)
  case F =>
    intro w mg fa h Y KX G hmg
    refine' Ps.all_mk KX G hmg ?a1 ?l1 ?c1 ?k1 ?a2 ?l2 ?c2 ?k2 ?a3 ?l3 ?c3 ?k3 ?a4 ?l4 ?c4 ?k4 ?a5 ?l5 ?c5 ?k5 ?a6 ?l6 ?c6 ?k6 ?a7 ?l7 ?c7 ?k7 ?a8 ?l8 ?c8 ?k8 ?gREFUSED ?gPLACES_MOST ?gPICTURES_MOST ?gLEAST_MOST ?gQUARTERS ?gQUARTERS_MOST ?zlen ?zrange ?zsorted ?zmax ?zabs ?zzip ?zsum
    (case a1 => k_is)
    (case l1 => k_is)
    (case c1 => k_is)
    (case k1 => k_is)
    (case a2 => k_is)
    (case l2 => k_is)
    (case c2 => k_is)
    (case k2 => k_is)
    (case a3 => k_is)
    (case l3 => k_is)
    (case c3 => k_is)
    (case k3 => k_is)
    (case a4 => k_is)
    (case l4 => k_is)
    (case c4 => k_is)
    (case k4 => k_is)
    (case a5 => k_is)
    (case l5 => k_is)
    (case c5 => k_is)
    (case k5 => k_is)
    (case a6 => k_is)
    (case l6 => k_is)
    (case c6 => k_is)
    (case k6 => k_is)
    (case a7 => k_is)
    (case l7 => k_is)
    (case c7 => k_is)
    (case k7 => k_is)
    (case a8 => k_is)
    (case l8 => k_is)
    (case c8 => k_is)
    (case k8 => k_is)
    (case gREFUSED => k_is)
    (case gPLACES_MOST => k_is)
    (case gPICTURES_MOST => k_is)
    (case gLEAST_MOST => k_is)
    (case gQUARTERS => k_is)
    (case gQUARTERS_MOST => k_is)
    (case zlen => k_is)
    (case zrange => k_is)
    (case zsorted => k_is)
    (case zmax => k_is)
    (case zabs => k_is)
    (case zzip => k_is)
    (case zsum => k_is)
  case S =>
    intro K H xs a hO hwi hask hx
    obtain ⟨n, least, q0, x, cov, uu⟩ := a
    rcases hx with _ | ⟨h1, hx⟩
    rcases hx with _ | ⟨h2, hx⟩
    rcases hx with _ | ⟨h3, hx⟩
    rcases hx with _ | ⟨h4, hx⟩
    rcases hx with _ | ⟨h5, hx⟩
    cases hx
    cases h1
    cases h2
    cases h3
    cases h4 with
    | lst hs ha =>
    cases h5 with
    | lst hs2 ha2 =>
      have e := L2.ints_dw x _ ha
      subst e
      have e := L2.ints_dw cov _ ha2
      subst e
      have q : (Codec.inInt 0 4294967295 n && (Codec.inInt 0 4294967295 least && (Codec.inInt 0 4294967295 q0 && ((Codec.inLen 0 61000 x && x.all (Codec.inInt 0 65535)) && ((Codec.inLen 0 61000 cov && cov.all (Codec.inInt 0 65535)) && true))))) = true := hwi
      simp only [Bool.and_eq_true] at q
      obtain ⟨q1, q2, q3, ⟨_, q4⟩, ⟨_, q5⟩, _⟩ := q
      have r1 := (Codec.inInt_iff.mp q1).1
      have r2 := (Codec.inInt_iff.mp q2).1
      have r3 := (Codec.inInt_iff.mp q3).1
      have r4 : ∀ a ∈ x, 0 ≤ a ∧ a ≤ 65535 := fun a ha => (Codec.inInt_iff.mp (List.all_eq_true.mp q4 a ha))
      have r5 : ∀ a ∈ cov, 0 ≤ a ∧ a ≤ 65535 := fun a ha => (Codec.inInt_iff.mp (List.all_eq_true.mp q5 a ha))
      have hask' : PySh69.sm_stack_asked n least q0 x cov = true := hask
      refine ⟨n, least, q0, _, _, x, cov, rfl, hs, hs2, Ps.stack_len hask', r4, r5, r3, fun H' p hp => ?_⟩
      show L2.Dw K H' (.ref p) (WData.list ((PySh69.sm_stack n least q0 x cov).map WData.int))
      rw [Ps.stack_is r1 r2 r3 (fun a ha => (r4 a ha).1) fun a ha => (r5 a ha).1]
      exact .lst (L2.SqL.of hp) (L2.dw_ints _)
#print axioms PySem.Challenge.cw_picturestack_s03_sm_stack_holds
