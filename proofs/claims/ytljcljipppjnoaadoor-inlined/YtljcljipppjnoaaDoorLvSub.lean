import Derived.Test.YtljcljipppjnoaaDoorLvTok
namespace Go.Proofs.YtljcljipppjnoaaDoor
open Go.RowKit Go.Shelf

/-- What the program tells of texts shorter than N. -/
def PartC (q : Tl) (m : Int) (N : Nat) : Prop :=
  ∀ (s : ByteArray) (ins : Bool) (A : List Ev) (W : World), s.size < N → s.size ≤ 1073741824 → Tell q A W → ML q m W → lastOk A → A.length + 2 * s.size ≤ 1099511627776 → (∀ e ∈ A, e.text.length + s.size ≤ 1099511627776) →
    Calls Tryd.prog 49 #[.string s, .bool ins, .func (.func 58) #[] #[.pointer (some ⟨q.bT, 0, none⟩), .pointer (some ⟨q.bE, 0, none⟩), .pointer (some ⟨q.bD, 0, none⟩)]] W fun e w' => e = .returned (.tuple #[]) ∧ Tell q (A ++ inlineS s.data.toList ins) w' ∧ Kl q W w'

theorem inl_len (l : List UInt8) (ins : Bool) : (inlineS l ins).length ≤ 2 * l.length := (inlF_facts (l.length + 1)).1 l ins

set_option maxRecDepth 100000 in
set_option maxHeartbeats 2000000 in
theorem linkin_any (q : Tl) (m : Int) (N : Nat) (hC : PartC q m N) (s : ByteArray) (ins : Bool) (A : List Ev) (bi be bo : Nat) (W : World) (hN : s.size < N) (hs : s.size ≤ 1073741824) (hT : Tell q A W) (hM : ML q m W) (hL : lastOk A) (hlen : A.length + 2 * s.size ≤ 1099511627776) (hx : ∀ e ∈ A, e.text.length + s.size ≤ 1099511627776)
    (h1 : W.heap[bi]? = some (.cells #[.string s] 9 (0, 0))) (h2 : W.heap[be]? = some (.cells #[.bool ins] 4 (0, 0))) (h3 : W.heap[bo]? = some (.cells #[tellV q] 111 (0, 0))) :
    Calls Tryd.prog 74 #[.pointer (some ⟨bi, 0, none⟩), .pointer (some ⟨be, 0, none⟩), .pointer (some ⟨bo, 0, none⟩)] W fun e w' => e = .returned (.tuple #[]) ∧ Tell q (A ++ inlineS s.data.toList ins) w' ∧ Kl q W w' := by
  have c1 := cell_of_one h1
  have c2 := cell_of_one h2
  have c3 := cell_of_one h3
  have hc := hC s ins A W hN hs hT hM hL hlen hx
  generalize A ++ inlineS s.data.toList ins = A2 at hc ⊢
  unfold tellV at c3
  clear hT hM hL hx h1 h2 h3 hC hlen
  go_enter Tryd.func74, Tryd.ntmps74
  go_wp2_with (go_at_call 49; refine hc.mono ?_; rintro e w1 ⟨rfl, T1, K1⟩)
  go_end0
  exact ⟨rfl, T1, K1⟩

set_option maxRecDepth 100000 in
set_option maxHeartbeats 2000000 in
theorem emphin_any (q : Tl) (m : Int) (N : Nat) (hC : PartC q m N) (s : ByteArray) (n : Nat) (A : List Ev) (bs bn bo : Nat) (W : World) (hn : 1 ≤ n) (hns : n ≤ s.size) (hN : s.size ≤ N) (hs : s.size ≤ 1073741824) (hT : Tell q A W) (hM : ML q m W) (hL : lastOk A) (hlen : A.length + 2 * n ≤ 1099511627776) (hx : ∀ e ∈ A, e.text.length + s.size ≤ 1099511627776)
    (h1 : W.heap[bs]? = some (.cells #[.string s] 9 (0, 0))) (h2 : W.heap[bn]? = some (.cells #[.int .i64 (n : Int)] 3 (0, 0))) (h3 : W.heap[bo]? = some (.cells #[tellV q] 111 (0, 0))) :
    Calls Tryd.prog 76 #[.pointer (some ⟨bs, 0, none⟩), .pointer (some ⟨bn, 0, none⟩), .pointer (some ⟨bo, 0, none⟩)] W fun e w' => e = .returned (.tuple #[]) ∧ Tell q (A ++ inlineS (cut s.data.toList 1 n) true) w' ∧ Kl q W w' := by
  have c1 := cell_of_one h1
  have c2 := cell_of_one h2
  have c3 := cell_of_one h3
  have hz : (s.extract 1 n).size = n - 1 := by rw [ByteArray.size_extract]; omega
  have hcut : (s.extract 1 n).data.toList = cut s.data.toList 1 n := by rw [ba_cut]
  have hbd : Below W.heap.size W W.drew := (Below.refl _ W).drew
  have hc := hC (s.extract 1 n) true A W.drew (by omega) (by omega) (hT.below hbd) (hM.below hT hbd) hL (by omega) (fun e he => by have := hx e he; omega)
  rw [hcut] at hc
  have HK : Hid (Kl q W W.drew) := Kl.below hbd hT.b0lt
  generalize A ++ inlineS (cut s.data.toList 1 n) true = A2 at hc ⊢
  unfold tellV at c3
  have z1 : (n : Int) ≤ (s.size : Int) := by omega
  have z2 : (1 : Int) ≤ (n : Int) := by omega
  clear hT hM hL hx h1 h2 h3 hC hlen hcut hz hbd
  go_enter Tryd.func76, Tryd.ntmps76
  go_wp2_with fail
  go_region_with (go_at_call 49; refine hc.mono ?_; rintro e w1 ⟨rfl, T1, K1⟩)
  all_goals
    go_wp2_with fail
    go_end0
    exact ⟨rfl, T1, HK.out.trans K1⟩

end Go.Proofs.YtljcljipppjnoaaDoor
