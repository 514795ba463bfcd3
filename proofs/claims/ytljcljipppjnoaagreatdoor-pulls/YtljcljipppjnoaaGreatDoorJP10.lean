import Derived.Test.YtljcljipppjnoaaGreatDoorJP09
import Derived.Deep.RegionHeld3
namespace Go.Proofs.YtljcljipppjnoaaGreatDoor
open Go.RowKit

set_option maxRecDepth 100000 in
set_option maxHeartbeats 2000000 in
/-- What stands within something that has a leaf. -/
theorem inLeaf_any (q : Tel) (hq : q.Ok) (acc : List Stp) (t : List UInt8) (x y bt bf ba : Nat) (W : World) (hT : q.Told acc W) (hlen : acc.length ≤ 1099511627776)
    (h1 : W.heap[bt]? = some (.cells #[.string ⟨t.toArray⟩] 9 (0, 0))) (h2 : W.heap[bf]? = some (.cells #[.func (.func q.kd) #[] #[.pointer (some ⟨q.bd, 0, none⟩)], .func (.func q.kl) #[] #[.pointer (some ⟨q.bl, 0, none⟩)]] 159 (0, 0))) (h3 : W.heap[ba]? = some (.cells #[.int .i64 x, .int .i64 y] 119 (0, 0))) :
    Calls Tryz.prog 180 #[.pointer (some ⟨bt, 0, none⟩), .pointer (some ⟨bf, 0, none⟩), .pointer (some ⟨ba, 0, none⟩)] W fun e w' => e = .returned (.tuple #[]) ∧ q.Told (acc ++ (if t = [] then [] else [.leaf t x y])) w' ∧ Kt q none W.heap.size W w' := by
  have c1 := cell_of_one h1
  have c2 := cell_of_row W bf 0 _ _ _ h2
  have c3 := cell_of_row W bf 1 _ _ _ h2
  have c4 := cell_of_row W ba 0 _ _ _ h3
  have c5 := cell_of_row W ba 1 _ _ _ h3
  simp at c2 c3 c4 c5
  clear h1 h2 h3
  have hl : (⟨t.toArray⟩ : ByteArray).toList = t := by rw [list_of]
  have ek := hq.el
  by_cases h : t = []
  · subst h
    rw [if_pos rfl, List.append_nil]
    clear hq
    go_enter Tryz.func180, Tryz.ntmps180
    go_wp2
    go_end0
    exact ⟨rfl, hT, Kt.refl _ _ _ _⟩
  · rw [if_neg h]
    have hc := hq.lfc acc t x y W hT h hlen
    have hne : (!t.isEmpty) = true := by
      cases t with
      | nil => exact absurd rfl h
      | cons a b => rfl
    clear hT hq
    go_enter Tryz.func180, Tryz.ntmps180
    go_wp2_with (go_at_fn q.kl; refine hc.mono ?_; rintro e w1 ⟨rfl, T1, K1⟩)
    go_end0
    exact ⟨rfl, T1, K1⟩

set_option maxRecDepth 100000 in
set_option maxHeartbeats 2000000 in
theorem withLeaf_any (q : Tel) (hq : q.Ok) (acc : List Stp) (kind level : Int) (t : List UInt8) (x y : Nat) (W : World) (hT : q.Told acc W) (hlen : acc.length + 2 ≤ 1099511627776) :
    Calls Tryz.prog 154 #[.agg #[.func (.func q.kd) #[] #[.pointer (some ⟨q.bd, 0, none⟩)], .func (.func q.kl) #[] #[.pointer (some ⟨q.bl, 0, none⟩)]], .agg #[.int .i64 kind, .bool false, .int .i64 level, .string ⟨#[]⟩], .string ⟨t.toArray⟩, .agg #[.int .i64 x, .int .i64 y]] W fun e w' => e = .returned (.tuple #[]) ∧ q.Told (acc ++ ([.ev ⟨kind, false, level, []⟩] ++ (if t = [] then [] else [.leaf t x y]) ++ [.ev ⟨kind, true, level, []⟩])) w' ∧ Kt q none W.heap.size W w' := by
  have hmf : ∀ (fn : Fn) (first cap : Array Value) (w : World), (Instr.makeFunc fn first cap).run Tryz.prog w = .ok (.func fn first cap) w := fun _ _ _ _ => rfl
  obtain ⟨o1, h1⟩ : ∃ o, o = Obj.cells #[.func (.func q.kd) #[] #[.pointer (some ⟨q.bd, 0, none⟩)], .func (.func q.kl) #[] #[.pointer (some ⟨q.bl, 0, none⟩)]] 159 (0, 0) := ⟨_, rfl⟩
  obtain ⟨o2, h2⟩ : ∃ o, o = Obj.cells #[.int .i64 kind, .bool false, .int .i64 level, .string ⟨#[]⟩] 92 (0, 0) := ⟨_, rfl⟩
  obtain ⟨o3, h3⟩ : ∃ o, o = Obj.cells #[.string ⟨t.toArray⟩] 9 (0, 0) := ⟨_, rfl⟩
  obtain ⟨o4, h4⟩ : ∃ o, o = Obj.cells #[.int .i64 x, .int .i64 y] 119 (0, 0) := ⟨_, rfl⟩
  obtain ⟨W4, hW4⟩ : ∃ W4, (((W.alloc o1).alloc o2).alloc o3).alloc o4 = W4 := ⟨_, rfl⟩
  have hB4 : Below W.heap.size W W4 := by rw [← hW4]; exact ((((Below.refl _ W).alloc (Nat.le_refl _) _).alloc (by simp) _).alloc (by simp <;> omega) _).alloc (by simp <;> omega) _
  have z4 : W4.heap.size = W.heap.size + 4 := by rw [← hW4]; simp
  have e1 : (W.alloc o1).heap.size = W.heap.size + 1 := by simp
  have e2 : ((W.alloc o1).alloc o2).heap.size = W.heap.size + 2 := by simp
  have e3 : (((W.alloc o1).alloc o2).alloc o3).heap.size = W.heap.size + 3 := by simp
  have x1 : W4.heap[W.heap.size]? = some o1 := by
    rw [← hW4]
    exact heap_al _ _ (by omega) (heap_al _ _ (by omega) (heap_al _ _ (by omega) (heap_alloc_new W o1)))
  have x3 : W4.heap[W.heap.size + 2]? = some o3 := by
    rw [← hW4, ← e2]
    exact heap_al _ _ (by omega) (heap_alloc_new _ o3)
  have x4 : W4.heap[W.heap.size + 3]? = some o4 := by
    rw [← hW4, ← e3]
    exact heap_alloc_new _ o4
  have hml : ∀ mid : List Stp, mid = (if t = [] then [] else [.leaf t x y]) → mid.length ≤ 1 := by
    intro mid hmid
    rw [hmid]
    split <;> simp
  have hc := twithin_any q hq none acc (fun mid => mid = (if t = [] then [] else [.leaf t x y])) 1 hml ⟨kind, false, level, []⟩ 180 #[.pointer (some ⟨W.heap.size + 2, 0, none⟩), .pointer (some ⟨W.heap.size, 0, none⟩), .pointer (some ⟨W.heap.size + 3, 0, none⟩)] W4 (fun _ => True) (enters_of Tryz.func180 (by kernel_rfl) rfl) (hq.below hT hB4) (by omega) (fun g hg => by cases hg)
    (fun W' hT' hK' => (inLeaf_any q hq (acc ++ [.ev ⟨kind, false, level, []⟩]) t x y (W.heap.size + 2) W.heap.size (W.heap.size + 3) W' hT' (by rw [List.length_append, List.length_singleton]; omega)
      ((hK'.block _ (by omega) (by simp) (hq.new hT hB4 (by omega))).trans (h3 ▸ x3)) ((hK'.block _ (by omega) (by simp) (hq.new hT hB4 (by omega))).trans (h1 ▸ x1)) ((hK'.block _ (by omega) (by simp) (hq.new hT hB4 (by omega))).trans (h4 ▸ x4))).mono fun e w' h => ⟨h.1, _, rfl, h.2.1, h.2.2, trivial⟩)
    (fun _ _ _ _ => trivial)
  have hc2 : Calls Tryz.prog 152 #[.agg #[.int .i64 kind, .bool false, .int .i64 level, .string ⟨#[]⟩], .func (.func q.kd) #[] #[.pointer (some ⟨q.bd, 0, none⟩)], .func (.func 180) #[] #[.pointer (some ⟨W.heap.size + 1 + 1, 0, none⟩), .pointer (some ⟨W.heap.size, 0, none⟩), .pointer (some ⟨W.heap.size + 1 + 1 + 1, 0, none⟩)]] ((((W.alloc o1).alloc o2).alloc o3).alloc o4) fun e w' => e = .returned (.tuple #[]) ∧ q.Told (acc ++ ([.ev ⟨kind, false, level, []⟩] ++ (if t = [] then [] else [.leaf t x y]) ++ [.ev ⟨kind, true, level, []⟩])) w' ∧ Kt q none W.heap.size W w' := by
    rw [hW4]
    refine hc.mono ?_
    rintro e w' ⟨rfl, mid, rfl, T, K, _⟩
    exact ⟨rfl, T, (hq.kt hT hB4).trans (K.mono (by omega))⟩
  rw [h1, h2, h3, h4] at hc2
  clear hc x1 x3 x4 hB4 z4 e1 e2 e3 hW4 h1 h2 h3 h4 hT hq hml
  generalize acc ++ ([Stp.ev ⟨kind, false, level, []⟩] ++ (if t = [] then [] else [.leaf t x y]) ++ [.ev ⟨kind, true, level, []⟩]) = res at hc2 ⊢
  go_enter Tryz.func154, Tryz.ntmps154
  go_wp2_with (go_at_call 152; refine hc2.mono ?_; rintro e w1 ⟨rfl, T1, K1⟩)
  go_end0
  exact ⟨rfl, T1, K1⟩

theorem Obj.fi (q : Tel) (v a d : Value) (W w' : World) (hb : Below (W.heap.size + 1 + 1) ((W.alloc (.cells #[.func (.func q.kd) #[] #[.pointer (some ⟨q.bd, 0, none⟩)], .func (.func q.kl) #[] #[.pointer (some ⟨q.bl, 0, none⟩)]] 159)).alloc (.cells #[v, a, d] 162)) w') :
    w'.heap[W.heap.size]? = some (.cells #[.func (.func q.kd) #[] #[.pointer (some ⟨q.bd, 0, none⟩)], .func (.func q.kl) #[] #[.pointer (some ⟨q.bl, 0, none⟩)]] 159 (0, 0)) ∧ w'.heap[W.heap.size + 1]? = some (.cells #[v, a, d] 162 (0, 0)) ∧ Below W.heap.size W w' := by
  have e1 : (W.alloc (.cells #[.func (.func q.kd) #[] #[.pointer (some ⟨q.bd, 0, none⟩)], .func (.func q.kl) #[] #[.pointer (some ⟨q.bl, 0, none⟩)]] 159)).heap.size = W.heap.size + 1 := by simp
  refine ⟨(hb.block _ (by omega)).trans (heap_al _ _ (by omega) (heap_alloc_new W _)), (hb.block _ (by omega)).trans ?_, (((Below.refl _ W).alloc (Nat.le_refl _) _).alloc (by omega) _).trans (hb.mono (by omega))⟩
  have := heap_alloc_new (W.alloc (.cells #[.func (.func q.kd) #[] #[.pointer (some ⟨q.bd, 0, none⟩)], .func (.func q.kl) #[] #[.pointer (some ⟨q.bl, 0, none⟩)]] 159)) (.cells #[v, a, d] 162)
  rw [e1] at this
  exact this
theorem cells2 {w : World} {b : Nat} {x y : Value} {T : TypeId} (h : w.heap[b]? = some (.cells #[x, y] T (0, 0))) : w.cell? ⟨b, 0, none⟩ = some x ∧ w.cell? ⟨b, 1, none⟩ = some y := by
  have c1 := cell_of_row w b 0 _ _ _ h
  have c2 := cell_of_row w b 1 _ _ _ h
  simp at c1 c2
  exact ⟨c1, c2⟩
theorem cells3 {w : World} {b : Nat} {x y z : Value} {T : TypeId} (h : w.heap[b]? = some (.cells #[x, y, z] T (0, 0))) : w.cell? ⟨b, 0, none⟩ = some x ∧ w.cell? ⟨b, 1, none⟩ = some y ∧ w.cell? ⟨b, 2, none⟩ = some z := by
  have c1 := cell_of_row w b 0 _ _ _ h
  have c2 := cell_of_row w b 1 _ _ _ h
  have c3 := cell_of_row w b 2 _ _ _ h
  simp at c1 c2 c3
  exact ⟨c1, c2, c3⟩

/-- What stands in the two boxes of a finder's method, as long as nothing below changes, and behind something that was told. -/
theorem fp_frame (q : Tel) (hq : q.Ok) (acc : List Stp) (W : World) (hT : q.Told acc W) (v a d : Value) :
    ∃ W2, ((W.alloc (.cells #[.func (.func q.kd) #[] #[.pointer (some ⟨q.bd, 0, none⟩)], .func (.func q.kl) #[] #[.pointer (some ⟨q.bl, 0, none⟩)]] 159)).alloc (.cells #[v, a, d] 162)) = W2 ∧ W2.heap.size = W.heap.size + 1 + 1 ∧
      (∀ w', Below W2.heap.size W2 w' → (((w'.cell? ⟨W.heap.size, 0, none⟩ = some (.func (.func q.kd) #[] #[.pointer (some ⟨q.bd, 0, none⟩)]) ∧ w'.cell? ⟨W.heap.size, 1, none⟩ = some (.func (.func q.kl) #[] #[.pointer (some ⟨q.bl, 0, none⟩)])) ∧ (w'.cell? ⟨W.heap.size + 1, 0, none⟩ = some v ∧ w'.cell? ⟨W.heap.size + 1, 1, none⟩ = some a ∧ w'.cell? ⟨W.heap.size + 1, 2, none⟩ = some d)) ∧ Below W.heap.size W w' ∧ q.Told acc w' ∧ ∀ b, W.heap.size ≤ b → ¬ q.Own w' b)) ∧
      (∀ w2 w3, Below W2.heap.size W2 w2 → Kt q none W2.heap.size w2 w3 → ((w3.cell? ⟨W.heap.size, 0, none⟩ = some (.func (.func q.kd) #[] #[.pointer (some ⟨q.bd, 0, none⟩)]) ∧ w3.cell? ⟨W.heap.size, 1, none⟩ = some (.func (.func q.kl) #[] #[.pointer (some ⟨q.bl, 0, none⟩)])) ∧ (w3.cell? ⟨W.heap.size + 1, 0, none⟩ = some v ∧ w3.cell? ⟨W.heap.size + 1, 1, none⟩ = some a ∧ w3.cell? ⟨W.heap.size + 1, 2, none⟩ = some d)) ∧ Kt q none W.heap.size W w3) := by
  refine ⟨_, rfl, by simp, ?_, ?_⟩
  · intro w' hb
    rw [show ((W.alloc (.cells #[.func (.func q.kd) #[] #[.pointer (some ⟨q.bd, 0, none⟩)], .func (.func q.kl) #[] #[.pointer (some ⟨q.bl, 0, none⟩)]] 159)).alloc (.cells #[v, a, d] 162)).heap.size = W.heap.size + 1 + 1 by simp] at hb
    obtain ⟨x1, x2, x3⟩ := Obj.fi q v a d W w' hb
    exact ⟨⟨cells2 x1, cells3 x2⟩, x3, hq.below hT x3, fun b hb => hq.new hT x3 hb⟩
  · intro w2 w3 hb hk
    rw [show ((W.alloc (.cells #[.func (.func q.kd) #[] #[.pointer (some ⟨q.bd, 0, none⟩)], .func (.func q.kl) #[] #[.pointer (some ⟨q.bl, 0, none⟩)]] 159)).alloc (.cells #[v, a, d] 162)).heap.size = W.heap.size + 1 + 1 by simp] at hb hk
    obtain ⟨x1, x2, x3⟩ := Obj.fi q v a d W w2 hb
    have h1 := lt_of_block x1
    have h2 := lt_of_block x2
    have h3 := x3.size
    exact ⟨⟨cells2 ((hk.block _ (by omega) (by simp) (hq.new hT x3 (by omega))).trans x1), cells3 ((hk.block _ (by omega) (by simp) (hq.new hT x3 (by omega))).trans x2)⟩, (hq.kt hT x3).trans (hk.mono (by omega))⟩

set_option maxRecDepth 100000 in
set_option maxHeartbeats 2000000 in
theorem dheading_any (q : Tel) (hq : q.Ok) (acc : List Stp) (g o cap a : Nat) (d : Int) (l : List UInt8) (r : List (List UInt8)) (W : World) (hT : q.Told acc W) (hlen : acc.length + 2 ≤ 1099511627776) (hS : Strs g o cap (l :: r) W) (hO : ¬ q.Own W g) (hl : l.length ≤ 1073741824) (ha : a + 1 ≤ 4294967296) :
    Calls Tryz.prog 130 #[.agg #[.func (.func q.kd) #[] #[.pointer (some ⟨q.bd, 0, none⟩)], .func (.func q.kl) #[] #[.pointer (some ⟨q.bl, 0, none⟩)]], .agg #[.slice (some ⟨g, o, none⟩) (r.length + 1) cap, .int .i64 a, .int .i64 d]] W fun e w' =>
      e = .returned (.int .i64 1) ∧ (∃ S, SpOk a (a + 1) S (leafS 1 (levelL l) (trimL (l.drop (levelL l)))) ∧ q.Told (acc ++ S) w') ∧ Kt q none W.heap.size W w' := by
  have hcell := hS.cell 0 l rfl
  rw [Nat.add_zero] at hcell
  have hglt := hS.lt
  have hfit := hS.fits
  rw [List.length_cons] at hfit
  have hmax := hS.max
  have hcL := fun W => dlevel_any ⟨l.toArray⟩ W (by rw [size_of]; omega)
  have hlv : levelS ⟨l.toArray⟩ = levelL l := rfl
  have hle := level_le l
  rw [hlv] at hcL
  generalize levelL l = k at hcL hle ⊢
  have hx := ba_ext l k l.length rfl
  have hs2 := size_of l
  have hcT := fun W => dtrim_any ⟨(l.drop k).toArray⟩ W (by rw [size_of, List.length_drop]; omega)
  have hts : trimS ⟨(l.drop k).toArray⟩ = ⟨(trimL (l.drop k)).toArray⟩ := rfl
  rw [hts, ← hx] at hcT
  generalize trimL (l.drop k) = tl at hcT hts ⊢
  have hcP := fun W => span_any (some ⟨g, o, none⟩) (r.length + 1) cap a 1 d W ha
  have hcF : ∀ W (_ : q.Told acc W), Calls Tryz.prog 154 #[.agg #[.func (.func q.kd) #[] #[.pointer (some ⟨q.bd, 0, none⟩)], .func (.func q.kl) #[] #[.pointer (some ⟨q.bl, 0, none⟩)]], .agg #[.int .i64 1, .bool false, .int .i64 k, .string ⟨#[]⟩], .string ⟨tl.toArray⟩, .agg #[.int .i64 a, .int .i64 ((a : Int) + ((1 : Nat) : Int))]] W _ := fun W h => withLeaf_any q hq acc 1 k tl a (a + 1) W h hlen
  have HSp : Hid (SpOk a (a + 1) ([.ev ⟨1, false, k, []⟩] ++ (if tl = [] then [] else [.leaf tl a (a + 1)]) ++ [.ev ⟨1, true, k, []⟩]) (leafS 1 k tl)) := SpOk.leaf a 1 (Nat.le_refl _) 1 k tl (by decide) (by decide)
  generalize ([Stp.ev ⟨1, false, k, []⟩] ++ (if tl = [] then [] else [.leaf tl a (a + 1)]) ++ [.ev ⟨1, true, k, []⟩]) = S at hcF HSp
  obtain ⟨W2, hW2⟩ : ∃ W2, ((W.alloc (.cells #[.func (.func q.kd) #[] #[.pointer (some ⟨q.bd, 0, none⟩)], .func (.func q.kl) #[] #[.pointer (some ⟨q.bl, 0, none⟩)]] 159)).alloc (.cells #[.slice (some ⟨g, o, none⟩) (r.length + 1) cap, .int .i64 a, .int .i64 d] 162)) = W2 := ⟨_, rfl⟩
  have z2 : W2.heap.size = W.heap.size + 1 + 1 := by rw [← hW2]; simp
  have hfi := fun w' => Obj.fi q (.slice (some ⟨g, o, none⟩) (r.length + 1) cap) (.int .i64 a) (.int .i64 d) W w'
  rw [hW2, ← z2] at hfi
  have hcs : ∀ w' : World, (w'.heap[W.heap.size]? = some (.cells #[.func (.func q.kd) #[] #[.pointer (some ⟨q.bd, 0, none⟩)], .func (.func q.kl) #[] #[.pointer (some ⟨q.bl, 0, none⟩)]] 159 (0, 0))) → (w'.heap[W.heap.size + 1]? = some (.cells #[.slice (some ⟨g, o, none⟩) (r.length + 1) cap, .int .i64 a, .int .i64 d] 162 (0, 0))) → w'.heap[g]? = W.heap[g]? → (w'.cell? ⟨W.heap.size, 0, none⟩ = some (.func (.func q.kd) #[] #[.pointer (some ⟨q.bd, 0, none⟩)]) ∧ w'.cell? ⟨W.heap.size, 1, none⟩ = some (.func (.func q.kl) #[] #[.pointer (some ⟨q.bl, 0, none⟩)])) ∧ (w'.cell? ⟨W.heap.size + 1, 0, none⟩ = some (.slice (some ⟨g, o, none⟩) (r.length + 1) cap) ∧ w'.cell? ⟨W.heap.size + 1, 1, none⟩ = some (.int .i64 a) ∧ w'.cell? ⟨W.heap.size + 1, 2, none⟩ = some (.int .i64 d)) ∧ w'.cell? ⟨g, o, none⟩ = some (.string ⟨l.toArray⟩) :=
    fun w' x1 x2 x3 => ⟨cells2 x1, cells3 x2, (World.cell?_of_block (w := W) x3 : w'.cell? ⟨g, o, none⟩ = W.cell? ⟨g, o, none⟩).trans hcell⟩
  have HK : Hid (∀ w', Below W2.heap.size W2 w' → _) := fun w' hb => hcs w' (hfi w' hb).1 (hfi w' hb).2.1 ((hfi w' hb).2.2.block g hglt)
  have HK3 : Hid (∀ w2 w3, Below W2.heap.size W2 w2 → Kt q none w2.heap.size w2 w3 → _) := fun w2 w3 hb hk => hcs w3
    ((hk.block _ (by have := hb.size; omega) (by simp) (hq.new hT (hfi w2 hb).2.2 (by omega))).trans (hfi w2 hb).1) ((hk.block _ (by have := hb.size; omega) (by simp) (hq.new hT (hfi w2 hb).2.2 (by omega))).trans (hfi w2 hb).2.1) ((hk.block g (by have := hb.size; omega) (by simp) (hq.off hT (hfi w2 hb).2.2 hO)).trans ((hfi w2 hb).2.2.block g hglt))
  have HF : Hid (∀ w2, Below W2.heap.size W2 w2 → _) := fun w2 hb => hcF w2 (hq.below hT (hfi w2 hb).2.2)
  have HE : Hid (∀ w2 w3, Below W2.heap.size W2 w2 → Kt q none w2.heap.size w2 w3 → Kt q none W.heap.size W w3) := fun w2 w3 hb hk => (hq.kt hT (hfi w2 hb).2.2).trans (hk.mono (by have := (hfi w2 hb).2.2.size; omega))
  have hB0 : Below W2.heap.size W2 W2.drew := (Below.refl _ W2).drew
  obtain ⟨⟨k1, k2⟩, ⟨k3, k4, k5⟩, k6⟩ := HK.out W2 (Below.refl _ W2)
  clear hS hT hts hlv hx hcF hq hfi hcs hO
  go_enter Tryz.func130, Tryz.ntmps130
  go_wp2_with (go_at_call 148; refine (hcL _).mono ?_; rintro e w' ⟨rfl, hw⟩; rw [hw]; clear hw)
  go_region_held3 (fun w' => (w'.cell? ⟨W.heap.size, 0, none⟩ = some (.func (.func q.kd) #[] #[.pointer (some ⟨q.bd, 0, none⟩)]) ∧ w'.cell? ⟨W.heap.size, 1, none⟩ = some (.func (.func q.kl) #[] #[.pointer (some ⟨q.bl, 0, none⟩)])) ∧ (w'.cell? ⟨W.heap.size + 1, 0, none⟩ = some (.slice (some ⟨g, o, none⟩) (r.length + 1) cap) ∧ w'.cell? ⟨W.heap.size + 1, 1, none⟩ = some (.int .i64 a) ∧ w'.cell? ⟨W.heap.size + 1, 2, none⟩ = some (.int .i64 d)) ∧ w'.cell? ⟨g, o, none⟩ = some (.string ⟨l.toArray⟩)) (first | exact HK3.out _ _ B2 K3 | exact HK.out _ B2 | exact HK.out _ B1 | exact HK.out _ hB0) (first | (go_at_call 146; refine (hcT _).mono ?_; rintro e w1 ⟨rfl, b1⟩; have B1 : Below W2.heap.size W2 w1 := hB0.trans b1) | (go_at_call 155; refine (hcP _).mono ?_; rintro e w2 ⟨rfl, b2⟩; have B2 : Below W2.heap.size W2 w2 := B1.trans (b2.mono B1.size)) | (go_at_call 154; refine (HF.out _ B2).mono ?_; rintro e w3 ⟨rfl, T3, K3⟩))
  go_wp2
  go_ret
  exact ⟨rfl, ⟨S, HSp.out, T3⟩, HE.out _ _ B2 K3⟩

end Go.Proofs.YtljcljipppjnoaaGreatDoor
