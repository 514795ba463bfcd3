import Derived.Test.YtljcljipppjnoaaGreatDoorRows
import Derived.WalkKit
import Derived.WalkSpells
import Derived.WalkLawsBesides
import Derived.Handy
import Derived.Lib.Strings
import Derived.Deep.RegionWith
import Derived.Deep.LoopGhost
namespace Go.Proofs.YtljcljipppjnoaaGreatDoor
open Go.RowKit
def isBl (c : UInt8) : Bool := c == 32 || c == 9
def blankS (s : ByteArray) : Bool := s.data.toList.all isBl
def beginsS (s w : ByteArray) : Bool := w.data.toList.isPrefixOf s.data.toList
theorem take_snoc (s : ByteArray) (k : Nat) (h : k < s.size) : s.data.toList.take (k + 1) = s.data.toList.take k ++ [s[k]] := by
  rw [List.take_succ_eq_append_getElem (by simpa using h)]; rfl
theorem drop_cons (s : ByteArray) (k : Nat) (h : k < s.size) : s.data.toList.drop k = s[k] :: s.data.toList.drop (k + 1) := by
  rw [List.drop_eq_getElem_cons (by simpa using h)]; rfl
theorem u8_eq (c d : UInt8) : ((c.toNat : Int) == (d.toNat : Int)) = (c == d) := by
  rw [Bool.eq_iff_iff, beq_iff_eq, beq_iff_eq]
  constructor
  · intro h
    exact UInt8.toNat_inj.1 (by omega)
  · intro h
    rw [h]
theorem list_of (s : ByteArray) : s.toList = s.data.toList := by
  have h := Lib.extract_toList s 0 s.size
  have e : s.extract 0 s.size = s := by
    apply ByteArray.ext
    rw [ByteArray.data_extract]
    exact Array.extract_size
  rw [e] at h
  rw [h, List.drop_zero, Nat.sub_zero, List.take_of_length_le]
  rw [Array.length_toList]
  exact Nat.le_refl _
theorem begins_short (s p : ByteArray) (h : ¬ p.size ≤ s.size) : beginsS s p = false := by
  rw [Bool.eq_false_iff]
  intro h1
  unfold beginsS at h1
  rw [List.isPrefixOf_iff_prefix] at h1
  have := h1.length_le
  rw [Array.length_toList, Array.length_toList] at this
  exact h this
def itemS (s : ByteArray) : Bool := (s.toList == [45]) || beginsS s ⟨#[45, 32]⟩ || beginsS s ⟨#[45, 9]⟩
def trimL (l : List UInt8) : List UInt8 := ((l.dropWhile isBl).reverse.dropWhile isBl).reverse
def trimS (s : ByteArray) : ByteArray := ⟨(trimL s.data.toList).toArray⟩
theorem ext_tail (s : ByteArray) (h : 0 < s.size) : s.data.toList = s[0] :: (s.extract 1 s.size).data.toList := by
  have := drop_cons s 0 h
  rw [List.drop_zero] at this
  rw [this, Lib.extract_data, List.take_of_length_le]
  rw [List.length_drop, Array.length_toList]
  exact Nat.le_refl _
theorem u8_bl (c : UInt8) : isBl c = (((c.toNat : Int) == 32) || ((c.toNat : Int) == 9)) := by
  have h1 := u8_eq c 32
  have h2 := u8_eq c 9
  unfold isBl
  rw [← h1, ← h2]
  rfl
end Go.Proofs.YtljcljipppjnoaaGreatDoor

namespace Go.Proofs.YtljcljipppjnoaaGreatDoor
open Go.RowKit
def hashes (l : List UInt8) : Nat := (l.takeWhile (· == 35)).length
def levelS (s : ByteArray) : Nat :=
  if hashes s.data.toList < 1 ∨ 3 < hashes s.data.toList ∨ (s.data.toList[hashes s.data.toList]?).map isBl = some false then 0 else hashes s.data.toList
theorem at_some (s : ByteArray) (k : Nat) (h : k < s.size) : s.data.toList[k]? = some s[k] := by
  rw [List.getElem?_eq_getElem (by rw [Array.length_toList]; exact h)]
  rfl
theorem at_none (s : ByteArray) (k : Nat) (h : ¬ k < s.size) : s.data.toList[k]? = none := by
  rw [List.getElem?_eq_none_iff, Array.length_toList]
  show s.size ≤ k
  omega
def startsS (s : ByteArray) (depth : Int) : Int :=
  if beginsS s ⟨#[96, 96, 96]⟩ = true then 2
  else if 0 < levelS s then 3
  else if beginsS s ⟨#[62]⟩ = true ∧ depth < 3 then 4
  else if itemS s = true ∧ depth < 3 then 5
  else 0
end Go.Proofs.YtljcljipppjnoaaGreatDoor

namespace Go.Proofs.YtljcljipppjnoaaGreatDoor
open Go.RowKit
def linesL : List UInt8 → List UInt8 → List (List UInt8)
  | cur, [] => if cur = [] then [] else [cur]
  | cur, c :: r => if c = 10 then cur :: linesL [] r else linesL (cur ++ [c]) r
def strCs (ls : List (List UInt8)) : List Value := ls.map fun l => Value.string ⟨l.toArray⟩
theorem Tryz.infoStr : (Tryz.prog.info? 9).map (fun i => (i.zero, i.size, i.bytes)) = some (some (.string ⟨#[]⟩), 1, 16) := by kernel_rfl
end Go.Proofs.YtljcljipppjnoaaGreatDoor

namespace Go.Proofs.YtljcljipppjnoaaGreatDoor
open Go.RowKit
structure Ev where
  kind : Int
  fin : Bool
  level : Int
  text : List UInt8
def evCells (e : Ev) : List Value := [.int .i64 e.kind, .bool e.fin, .int .i64 e.level, .string ⟨e.text.toArray⟩]
def evCs (l : List Ev) : List Value := l.flatMap evCells
theorem evCs_length (l : List Ev) : (evCs l).length = l.length * 4 := by
  induction l with
  | nil => rfl
  | cons e r ih => simp only [evCs, List.flatMap_cons, List.length_append, List.length_cons] at ih ⊢; rw [ih]; simp [evCells]; omega
theorem evCs_append (a b : List Ev) : evCs (a ++ b) = evCs a ++ evCs b := by simp [evCs]
theorem evCs_one (e : Ev) : evCs [e] = evCells e := by simp [evCs]
def leafS (kind level : Int) (t : List UInt8) : List Ev :=
  [⟨kind, false, level, []⟩] ++ (if t = [] then [] else [⟨8, false, 0, t⟩]) ++ [⟨kind, true, level, []⟩]
theorem Tryz.infoEv : (Tryz.prog.info? 83).map (fun i => (i.zero, i.size, i.bytes)) = some (some (.agg #[.int .i64 0, .bool false, .int .i64 0, .string ⟨#[]⟩]), 4, 40) := by kernel_rfl
theorem ev_cell (w : World) (e : Ev) (t : TypeId) {n : Nat} (hn : n = w.heap.size) : ∀ j u, (evCells e)[j]? = some u → (w.alloc (.cells (evCells e).toArray t)).cell? ((⟨n, 0, none⟩ : Addr).add j) = some u := by
  subst hn
  intro j u hj
  rw [Addr.add_lit, Nat.zero_add]
  have hh : (w.alloc (.cells (evCells e).toArray t)).heap[w.heap.size]? = some (.cells (evCells e).toArray t (0, 0)) := by
    show (w.heap.push _)[w.heap.size]? = _
    simp
  simp only [World.cell?, hh]
  simpa using hj
theorem ev_one (e : Ev) : ∀ u ∈ evCells e, u.oneCell' = true := by
  intro u hu
  simp [evCells] at hu
  rcases hu with rfl | rfl | rfl | rfl <;> rfl
end Go.Proofs.YtljcljipppjnoaaGreatDoor

namespace Go.Proofs.YtljcljipppjnoaaGreatDoor
open Go.RowKit
structure Strs (g o cap : Nat) (ls : List (List UInt8)) (w : World) : Prop where
  fits : ls.length ≤ cap
  max : cap ≤ 9223372036854775807
  lt : g < w.heap.size
  cell : ∀ (j : Nat) (l : List UInt8), ls[j]? = some l → w.cell? ⟨g, o + j, none⟩ = some (.string ⟨l.toArray⟩)
theorem Strs.below {g o cap B : Nat} {ls : List (List UInt8)} {w w' : World} (h : Strs g o cap ls w) (hb : Below B w w') (hg : g < B) : Strs g o cap ls w' :=
  ⟨h.fits, h.max, by have := hb.size; have := h.lt; omega, fun j l hj => (hb.cell (p := ⟨g, o + j, none⟩) hg).trans (h.cell j l hj)⟩
def blankL (l : List UInt8) : Bool := l.all isBl
def behindS (ls : List (List UInt8)) (n : Nat) : Nat := n + ((ls.drop n).takeWhile blankL).length
def Small (M : Nat) (ls : List (List UInt8)) : Prop := ls.length ≤ M ∧ ∀ l ∈ ls, l.length ≤ M
theorem behind_lt (ls : List (List UInt8)) (n : Nat) (h : n < ls.length) (hb : blankL ls[n] = true) : behindS ls n = behindS ls (n + 1) := by
  unfold behindS
  rw [List.drop_eq_getElem_cons h, List.takeWhile_cons, if_pos hb]
  simp
  omega
theorem behind_at (ls : List (List UInt8)) (n : Nat) (h : n < ls.length) (hb : blankL ls[n] = false) : behindS ls n = n := by
  unfold behindS
  rw [List.drop_eq_getElem_cons h, List.takeWhile_cons, if_neg (by simp [hb])]
  rfl
theorem behind_end (ls : List (List UInt8)) (n : Nat) (h : n = ls.length) : behindS ls n = n := by
  unfold behindS
  rw [List.drop_eq_nil_iff.2 (by omega)]
  rfl
theorem size_of (l : List UInt8) : (⟨l.toArray⟩ : ByteArray).size = l.length := by
  show l.toArray.size = _
  simp
end Go.Proofs.YtljcljipppjnoaaGreatDoor

namespace Go.Proofs.YtljcljipppjnoaaGreatDoor
open Go.RowKit
def joinT : List (List UInt8) → List UInt8
  | [] => []
  | l :: r => trimL l ++ r.flatMap fun x => 10 :: trimL x
def stays (depth : Int) (l : List UInt8) : Bool := !blankL l && decide (startsS ⟨l.toArray⟩ depth = 0)
def paraFrom (ls : List (List UInt8)) (depth : Int) (k : Nat) : Nat := k + ((ls.drop k).takeWhile (stays depth)).length
theorem para_lt (ls : List (List UInt8)) (d : Int) (n : Nat) (h : n < ls.length) (hb : stays d ls[n] = true) : paraFrom ls d n = paraFrom ls d (n + 1) := by
  unfold paraFrom
  rw [List.drop_eq_getElem_cons h, List.takeWhile_cons, if_pos hb]
  simp
  omega
theorem para_at (ls : List (List UInt8)) (d : Int) (n : Nat) (h : n < ls.length) (hb : stays d ls[n] = false) : paraFrom ls d n = n := by
  unfold paraFrom
  rw [List.drop_eq_getElem_cons h, List.takeWhile_cons, if_neg (by simp [hb])]
  rfl
theorem para_end (ls : List (List UInt8)) (d : Int) (n : Nat) (h : n = ls.length) : paraFrom ls d n = n := by
  unfold paraFrom
  rw [List.drop_eq_nil_iff.2 (by omega)]
  rfl
theorem trimL_le (l : List UInt8) : (trimL l).length ≤ l.length := by
  unfold trimL
  rw [List.length_reverse]
  have h1 := (List.dropWhile_sublist (l := (l.dropWhile isBl).reverse) isBl).length_le
  have h2 := (List.dropWhile_sublist (l := l) isBl).length_le
  rw [List.length_reverse] at h1
  omega
theorem ba_app (a b : List UInt8) : (⟨a.toArray⟩ : ByteArray) ++ ⟨b.toArray⟩ = ⟨(a ++ b).toArray⟩ := by
  apply ByteArray.ext
  rw [ByteArray.data_append]
  simp
theorem snoc_take (ls : List (List UInt8)) (k : Nat) (h : k < ls.length) : ls.take (k + 1) = ls.take k ++ [ls[k]] := List.take_succ_eq_append_getElem h
end Go.Proofs.YtljcljipppjnoaaGreatDoor

namespace Go.Proofs.YtljcljipppjnoaaGreatDoor
open Go.RowKit
def ticks : ByteArray := ⟨#[96, 96, 96]⟩
def shuts (l : List UInt8) : Bool := beginsS ⟨l.toArray⟩ ⟨#[96, 96, 96]⟩ && blankL (l.drop 3)
def shutAt (ls : List (List UInt8)) (k : Nat) : Nat := k + ((ls.drop k).takeWhile (fun l => !shuts l)).length
def codeOf (ls : List (List UInt8)) : List UInt8 := ls.flatMap fun l => l ++ [10]
def fencedN (ls : List (List UInt8)) : Nat := if shutAt ls 1 < ls.length then shutAt ls 1 + 1 else ls.length
def fencedT (ls : List (List UInt8)) : List UInt8 := codeOf ((ls.take (shutAt ls 1)).drop 1)
theorem codeOf_snoc (ls : List (List UInt8)) (x : List UInt8) : codeOf (ls ++ [x]) = codeOf ls ++ (x ++ [10]) := by
  simp [codeOf]
theorem ba_ext (l : List UInt8) (a b : Nat) (hb : b = l.length) : (⟨l.toArray⟩ : ByteArray).extract a b = ⟨(l.drop a).toArray⟩ := by
  apply ByteArray.ext
  apply Array.ext'
  rw [Lib.extract_data, List.take_of_length_le (by simp [hb])]
end Go.Proofs.YtljcljipppjnoaaGreatDoor
