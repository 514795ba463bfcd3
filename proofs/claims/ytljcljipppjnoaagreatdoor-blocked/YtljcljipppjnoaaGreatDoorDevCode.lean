import Derived.Test.YtljcljipppjnoaaGreatDoorDevPara
import Derived.Test.YtljcljipppjnoaaGreatDoorBldL
import Derived.Deep.DeepCutAuto
import Derived.Deep.CutBlock
import Derived.Deep.RegionHeld3
namespace Go.Proofs.YtljcljipppjnoaaGreatDoor
open Go.RowKit Go.Shelf

/-- Where the code ends, in the lines behind the fence. -/
def codeN (r : List (List UInt8)) (k : Nat) : Nat := scan (fun l => !shuts l) r k
theorem shut_code (l : List UInt8) (r : List (List UInt8)) : shutAt (l :: r) 1 = 1 + codeN r 0 := by
  simp [shutAt, codeN, scan]
theorem code_text (l : List UInt8) (r : List (List UInt8)) : fencedT (l :: r) = codeOf (r.take (codeN r 0)) := by
  rw [fencedT, shut_code, Nat.add_comm, List.take_succ_cons, List.drop_succ_cons, List.drop_zero]
theorem code_rest (l : List UInt8) (r : List (List UInt8)) (hn : codeN r 0 ≤ r.length) : (l :: r).drop (fencedN (l :: r)) = r.drop (min (codeN r 0 + 1) r.length) := by
  have e : fencedN (l :: r) = min (codeN r 0 + 1) r.length + 1 := by
    rw [fencedN, shut_code, List.length_cons]
    split <;> omega
  rw [e, List.drop_succ_cons]

theorem Tel.Ok.bld {q : Tel} {acc : List Stp} {W w' : World} {B bt : Nat} {p : List UInt8} (hq : q.Ok) (hT : q.Told acc W) (hH : HasL B bt p W) (hO : Lib.OthersKept 5 (some bt) W w') : (q.Told acc w' ∧ ∀ b, q.Own w' b → q.Own W b) ∧ ¬ q.Own W bt := by
  obtain ⟨_, x, v, hbT, _⟩ := hH.at
  have hno : ¬ q.Own W bt := fun ho => by
    obtain ⟨ob, h1, h2⟩ := hq.typ acc W hT bt ho
    rw [hbT] at h1
    injection h1 with h1
    exact (h2 _ _ _ h1.symm).2 rfl
  refine ⟨hq.keep acc W w' hT fun b ho => ?_, hno⟩
  obtain ⟨ob, h1, h2⟩ := hq.typ acc W hT b ho
  rw [h1]
  exact hO b ob h1 (fun h => by injection h with h; subst h; exact hno ho) (fun c fz h => (h2 _ _ _ h).1 rfl)
theorem Tel.Ok.row8 {q : Tel} {acc : List Stp} {W : World} (hq : q.Ok) (hT : q.Told acc W) {b : Nat} (h : Row8 W b) : ¬ q.Own W b := fun ho => by
  obtain ⟨c, fz, h⟩ := h
  obtain ⟨ob, h1, h2⟩ := hq.typ acc W hT b ho
  rw [h] at h1
  injection h1 with h1
  exact (h2 _ _ _ h1.symm).1 rfl

set_option maxRecDepth 100000 in
set_option maxHeartbeats 2000000 in
/-- What stands within code. -/
theorem inCode_any (q : Tel) (hq : q.Ok) (acc : List Stp) (ct : List UInt8) (B bt bf be : Nat) (ce : Array Value) (W : World) (hT : q.Told acc W) (hH : HasL B bt ct W) (hBW : B ≤ W.heap.size) (hlen : acc.length ≤ 1099511627776)
    (hf : W.heap[bf]? = some (.cells #[.func (.func q.kd) #[] #[.pointer (some ⟨q.bd, 0, none⟩)], .func (.func q.kl) #[] #[.pointer (some ⟨q.bl, 0, none⟩)]] 159 (0, 0))) (he : W.heap[be]? = some (.cells ce 92 (0, 0))) (hbe : ¬ q.Own W be) (hbf : ¬ q.Own W bf) :
    Calls Tryz.prog 153 #[.pointer (some ⟨bt, 0, none⟩), .pointer (some ⟨bf, 0, none⟩)] W fun e w' => e = .returned (.tuple #[]) ∧ q.Told (acc ++ (if ct = [] then [] else [.ev ⟨8, false, 0, ct⟩])) w' ∧ Kt q none B W w' ∧ w'.heap[be]? = W.heap[be]? := by
  have c1 := hasL_get B bt ct W.drew hH (show B ≤ W.heap.size from hBW)
  have HB : Hid (∀ w1, Below B W.drew w1 → Lib.OthersKept 5 (some bt) W.drew w1 → w1.heap[bf]? = some (.cells #[.func (.func q.kd) #[] #[.pointer (some ⟨q.bd, 0, none⟩)], .func (.func q.kl) #[] #[.pointer (some ⟨q.bl, 0, none⟩)]] 159 (0, 0)) ∧ w1.heap[be]? = W.heap[be]? ∧ q.Told acc w1 ∧ Kt q none B W w1 ∧ ¬ q.Own w1 be ∧ ¬ q.Own w1 bf) := by
    intro w1 b1 o1
    have o2 : Lib.OthersKept 5 (some bt) W w1 := (Lib.OthersKept.refl _ _ W).drew.trans o1
    obtain ⟨⟨t1, t2⟩, t3⟩ := hq.bld hT hH o2
    have b2 : Below B W w1 := (Below.refl _ W).drew.trans b1
    exact ⟨oth_cell hH o2 hf (by decide) (by decide), (oth_cell hH o2 he (by decide) (by decide)).trans he.symm, t1, ⟨b2.os, b2.tape, b2.output, b2.size, fun i hi _ _ => b2.block i hi, fun i _ ho => t2 i ho⟩, fun h => hbe (t2 _ h), fun h => hbf (t2 _ h)⟩
  have HT : Hid (∀ w1, q.Told acc w1 → _) := fun w1 h => ttext_any q hq acc ct w1 h hlen
  have cf := (cells2 hf).1
  have hlt := lt_of_block hf
  have hle := (Array.getElem?_eq_some_iff.1 he).1
  generalize (if ct = [] then [] else [Stp.ev ⟨8, false, 0, ct⟩]) = R at HT ⊢
  clear hT hH hq hf he
  go_enter Tryz.func153, Tryz.ntmps153
  go_wp2
  go_region_held3 (fun w' => w'.cell? ⟨bf, 0, none⟩ = some (.func (.func q.kd) #[] #[.pointer (some ⟨q.bd, 0, none⟩)])) (first | exact f2 | exact f1 | exact cf) (first | (go_at_call 106; refine c1.mono ?_; rintro e w1 ⟨rfl, i1, b1, o1⟩; obtain ⟨x1, x2, x3, x4, x5, x6⟩ := HB.out w1 b1 o1; have f1 := (cells2 x1).1) | (go_at_call 62; refine (HT.out w1 x3).mono ?_; rintro e w2 ⟨rfl, T2, K2⟩; have f2 := (cells2 ((K2.block bf (Nat.lt_of_lt_of_le hlt x4.size) (by simp) x6).trans x1)).1))
  go_wp2
  go_end0
  exact ⟨rfl, T2, x4.trans (K2.mono (Nat.le_trans hBW x4.size)), (K2.block be (Nat.lt_of_lt_of_le hle x4.size) (by simp) x5).trans x2⟩

theorem code_map (t : List UInt8) : ([Stp.ev ⟨5, false, 0, []⟩] ++ (if t = [] then [] else [Stp.ev ⟨8, false, 0, t⟩]) ++ [Stp.ev (evEnd ⟨5, false, 0, []⟩)]) = (leafS 5 0 t).map Stp.ev := by
  unfold leafS evEnd
  split <;> rfl

/-- Code is told. -/
theorem wCode_any (q : Tel) (hq : q.Ok) (acc : List Stp) (ct : List UInt8) (W wt : World) (v a d : Value) (hT : q.Told acc W) (hlen : acc.length + 2 ≤ 1099511627776) (hH : HasL (W.heap.size + 1 + 1) (W.heap.size + 1 + 1) ct wt) (hb : Below (W.heap.size + 1 + 1) ((W.alloc (.cells #[.func (.func q.kd) #[] #[.pointer (some ⟨q.bd, 0, none⟩)], .func (.func q.kl) #[] #[.pointer (some ⟨q.bl, 0, none⟩)]] 159)).alloc (.cells #[v, a, d] 162)) wt) :
    Calls Tryz.prog 152 #[.agg #[.int .i64 5, .bool false, .int .i64 0, .string ⟨#[]⟩], .func (.func q.kd) #[] #[.pointer (some ⟨q.bd, 0, none⟩)], .func (.func 153) #[] #[.pointer (some ⟨W.heap.size + 1 + 1, 0, none⟩), .pointer (some ⟨W.heap.size, 0, none⟩)]] wt fun e w' => e = .returned (.tuple #[]) ∧ q.Told (acc ++ (leafS 5 0 ct).map Stp.ev) w' ∧ Kt q none (W.heap.size + 1 + 1) wt w' := by
  obtain ⟨x1, x2, x3⟩ := Obj.fi q v a d W wt hb
  have hTt := hq.below hT x3
  have l1 := lt_of_block x1
  have l2 := hH.lt
  have hml : ∀ mid : List Stp, mid = (if ct = [] then [] else [.ev ⟨8, false, 0, ct⟩]) → mid.length ≤ 1 := by
    intro mid hmid
    rw [hmid]
    split <;> simp
  refine (twithin_gen q hq none acc (fun mid => mid = (if ct = [] then [] else [.ev ⟨8, false, 0, ct⟩])) 1 hml ⟨5, false, 0, []⟩ 153 #[.pointer (some ⟨W.heap.size + 1 + 1, 0, none⟩), .pointer (some ⟨W.heap.size, 0, none⟩)] wt (fun _ => True) (enters_of Tryz.func153 (by kernel_rfl) rfl) hTt (by omega) (W.heap.size + 1 + 1) (by omega) ?_ (fun _ _ _ _ => trivial)).mono ?_
  · intro W' hT' hK' he ho
    have hnb : ¬ q.Own wt (W.heap.size + 1 + 1) := hq.new hT x3 (by omega)
    have hH' : HasL (W.heap.size + 1 + 1) (W.heap.size + 1 + 1) ct W' := hH.keep (hK'.block _ l2 (by simp) hnb) (fun g hg => hK'.block g (by obtain ⟨c, fz, h⟩ := hg; exact (Array.getElem?_eq_some_iff.1 h).1) (by simp) (hq.row8 hTt hg))
    have hnf : ¬ q.Own wt W.heap.size := hq.new hT x3 (Nat.le_refl _)
    refine (inCode_any q hq (acc ++ [.ev ⟨5, false, 0, []⟩]) ct (W.heap.size + 1 + 1) (W.heap.size + 1 + 1) W.heap.size wt.heap.size _ W' hT' hH' (by have := hK'.size; omega) (by rw [List.length_append, List.length_singleton]; omega) ((hK'.block _ l1 (by simp) hnf).trans x1) he ho (hK'.off l1 hnf)).mono ?_
    rintro e w' ⟨rfl, h1, h2, h3⟩
    exact ⟨rfl, _, rfl, h1, h2, h3, trivial⟩
  · rintro e w' ⟨rfl, mid, rfl, T, K, _⟩
    rw [code_map] at T
    exact ⟨rfl, T, K⟩

theorem fenced_min (l : List UInt8) (r : List (List UInt8)) (hn : codeN r 0 ≤ r.length) : fencedN (l :: r) = min (codeN r 0 + 1 + 1) (r.length + 1) := by
  rw [fencedN, shut_code, List.length_cons]
  split <;> omega

set_option maxRecDepth 100000 in
set_option maxHeartbeats 4000000 in
theorem dcode_any (q : Tel) (hq : q.Ok) (acc0 : List Stp) (g o cap a : Nat) (d : Int) (l0 : List UInt8) (r : List (List UInt8)) (W : World) (hT : q.Told acc0 W) (hlen : acc0.length + 2 ≤ 1099511627776) (hS : Strs g o cap (l0 :: r) W) (hM : tot (l0 :: r) ≤ 1073741824) :
    Calls Tryz.prog 129 #[.agg #[.func (.func q.kd) #[] #[.pointer (some ⟨q.bd, 0, none⟩)], .func (.func q.kl) #[] #[.pointer (some ⟨q.bl, 0, none⟩)]], .agg #[.slice (some ⟨g, o, none⟩) (r.length + 1) cap, .int .i64 a, .int .i64 d]] W fun e w' =>
      e = .returned (.int .i64 ((fencedN (l0 :: r) : Nat) : Int)) ∧ (∃ S, SpOk a (a + fencedN (l0 :: r)) S (leafS 5 0 (fencedT (l0 :: r))) ∧ q.Told (acc0 ++ S) w') ∧ Kt q none W.heap.size W w' := by
  have hmf : ∀ (fn : Fn) (first cap : Array Value) (w : World), (Instr.makeFunc fn first cap).run Tryz.prog w = .ok (.func fn first cap) w := fun _ _ _ _ => rfl
  have hglt := hS.lt
  have hfit := hS.fits
  rw [List.length_cons] at hfit
  have hmax := hS.max
  have hn0 : codeN r 0 ≤ r.length := (scan_le _ r 0 (Nat.zero_le _)).1
  rw [tot_cons] at hM
  have hll := tot_len r
  have HM : Hid (tot r ≤ 1073741824) := by show _ ≤ _; omega
  rw [code_text]
  obtain ⟨ct, hct⟩ : ∃ ct, codeOf (r.take (codeN r 0)) = ct := ⟨_, rfl⟩
  obtain ⟨fn, hfn⟩ : ∃ fn, fencedN (l0 :: r) = fn := ⟨_, rfl⟩
  have hfm := fenced_min l0 r hn0
  rw [hfn] at hfm
  rw [hct, hfn]
  have HC : Hid (codeOf (r.take (codeN r 0)) = ct ∧ fn = min (codeN r 0 + 1 + 1) (r.length + 1)) := ⟨hct, hfm⟩
  have HSp : Hid (SpOk a (a + fn) ((leafS 5 0 ct).map Stp.ev) (leafS 5 0 ct)) := SpOk.code a (a + fn) (by omega) ct
  obtain ⟨W2, hW2, z2, hK, hK3⟩ := fp_frame q hq acc0 W hT (.slice (some ⟨g, o, none⟩) (r.length + 1) cap) (.int .i64 a) (.int .i64 d)
  obtain ⟨⟨⟨k1, k2⟩, ⟨k3, k4, k5⟩⟩, hb02, _⟩ := hK W2 (Below.refl _ W2)
  have HK : Hid _ := hK
  have HK3 : Hid _ := hK3
  have hwc := fun wt ct hH hb => wCode_any q hq acc0 ct W wt (.slice (some ⟨g, o, none⟩) (r.length + 1) cap) (.int .i64 a) (.int .i64 d) hT hlen hH hb
  rw [hW2, ← z2] at hwc
  have HW : Hid _ := hwc
  have HS0 : Hid (Strs g o cap (l0 :: r) W2) := hS.below hb02 hglt
  have hg2 : g < W2.heap.size := by omega
  have z3 : W2.heap.size ≤ W.heap.size + 2 ∧ W.heap.size + 2 ≤ W2.heap.size := by omega
  clear hT hS hq hK hK3 hct hfn hfm hwc hn0 z2
  go_enter Tryz.func129, Tryz.ntmps129
  go_wp2
  go_loopw [5] (fun i wr => ∃ (j : Nat) (acc : List UInt8), 1 ≤ j ∧ j ≤ r.length + 1 ∧ i = .int .i64 j ∧ HasL W2.heap.size W2.heap.size acc wr ∧ Below W2.heap.size W2 wr ∧ Hid (acc = codeOf (r.take (j - 1))) ∧ Hid (codeN r (j - 1) = codeN r 0)) (fun i _ => r.length + 1 - (intOf i).toNat)
  case atStart => exact ⟨1, [], Nat.le_refl _, by omega, rfl, Lib.IsBuilderF.of (Lib.fresh_isBuilder 191 5 W2), (Below.refl _ W2).alloc (Nat.le_refl _) _, (by show _ = _; rfl), (by show _ = _; rfl)⟩
  case round =>
    obtain ⟨j, acc, hj1, hj, rfl, hI, hbel, HAc, HN⟩ := hrel
    have hbs := hbel.size
    have hgwr : g < wr.heap.size := by omega
    have hacc : acc.length ≤ 1073741824 := by
      rw [HAc.out, codeOf_len]
      exact Nat.le_trans (tot_take r (j - 1)) HM.out
    have hfin : codeN r 0 = j - 1 → acc = ct := fun h => by rw [← HC.out.1, h]; exact HAc.out
    have hbw : ∀ w1 w2, Below wr.heap.size wr w1 → Below W2.heap.size w1 w2 → Below W2.heap.size W2 w2 := fun w1 w2 a b => (hbel.trans (a.mono hbs)).trans b
    obtain ⟨⟨⟨r1, r2⟩, ⟨r3, r4, r5⟩⟩, _⟩ := HK.out wr hbel
    by_cases hlt : j < r.length + 1
    · have hlt' : j - 1 < r.length := by omega
      obtain ⟨l, hl⟩ : ∃ l, r[j - 1] = l := ⟨_, rfl⟩
      have hcell := (HS0.out.below hbel hg2).cell j l (by
        obtain ⟨k, rfl⟩ : ∃ k, j = k + 1 := ⟨j - 1, by omega⟩
        rw [List.getElem?_cons_succ, ← hl]
        exact List.getElem?_eq_getElem hlt')
      have hsz : l.length ≤ 1073741824 := Nat.le_trans (tot_mem (by rw [← hl]; exact List.getElem_mem hlt')) HM.out
      have hcE := fun W => dfenceEnd_any ⟨l.toArray⟩ W (by rw [size_of]; omega)
      have hsh : shuts (⟨l.toArray⟩ : ByteArray).data.toList = shuts l := rfl
      rw [hsh] at hcE
      cases hb : shuts l with
      | true =>
        have hkk : codeN r 0 = j - 1 := by
          rw [← HN.out]
          exact scan_at _ r (j - 1) hlt' (by rw [hl, hb]; rfl)
        have hac := hfin hkk
        subst hac
        have hfv : fn = j + 1 := by rw [HC.out.2, hkk]; omega
        have hm : min ((j : Int) + 1) ((r.length : Int) + 1) = (j : Int) + 1 := by omega
        have hrv : ((fn : Nat) : Int) = (j : Int) + 1 := by omega
        rw [hb] at hcE
        have HRV : Hid (((fn : Nat) : Int) = (j : Int) + 1) := hrv
        have HSp2 : Hid (SpOk a (a + fn) ((leafS 5 0 acc).map Stp.ev) (leafS 5 0 acc)) := HSp
        clear hb hsh hl hfin HN hfv hkk hrv
        go_wp2_with (first | (go_at_call 151; refine (hcE _).mono ?_; rintro e w1 ⟨rfl, b1⟩; have B1 : Below W2.heap.size W2 w1 := hbel.trans (b1.mono hbs); obtain ⟨⟨⟨t1, t2⟩, ⟨t3, t4, t5⟩⟩, _⟩ := HK.out w1 B1) | (go_at_call 152; refine (HW.out w1 _ (hI.below b1) B1).mono ?_; rintro e w5 ⟨rfl, T5, K5⟩; obtain ⟨⟨⟨y1, y2⟩, ⟨y3, y4, y5⟩⟩, hKK⟩ := HK3.out w1 w5 B1 K5))
        go_ret
        exact ⟨by rw [HRV.out]; rfl, ⟨_, HSp2.out, T5⟩, hKK⟩
      | false =>
        have HN2 : Hid (codeN r (j + 1 - 1) = codeN r 0) := by
          show _ = _
          rw [← HN.out, show j + 1 - 1 = j - 1 + 1 by omega]
          exact (scan_lt _ r (j - 1) hlt' (by rw [hl, hb]; rfl)).symm
        have HA2 : Hid (acc ++ l ++ [10] = codeOf (r.take (j + 1 - 1))) := by
          show _ = _
          rw [show j + 1 - 1 = j - 1 + 1 by omega, snoc_take r (j - 1) hlt', codeOf_snoc, hl, ← HAc.out, List.append_assoc]
        rw [hb] at hcE
        clear hb hsh hl hfin HN
        go_wp2_with (first | (go_at_call 151; refine (hcE _).mono ?_; rintro e w1 ⟨rfl, b1⟩; have B1 : Below W2.heap.size W2 w1 := hbel.trans (b1.mono hbs); obtain ⟨⟨⟨t1, t2⟩, ⟨t3, t4, t5⟩⟩, _⟩ := HK.out w1 B1; have c1 := (b1.cell (p := ⟨g, _, none⟩) hgwr).trans hcell; have s1 := b1.size) | (go_at_call 121; refine (hasL_string _ _ acc l w1 (hI.below b1) (by omega) (by omega)).mono ?_; rintro e w2 ⟨rfl, i2, b2⟩; have s2 := b2.size) | (go_at_call 104; refine (hasL_byte _ _ (acc ++ l) w2 i2 (by rw [List.length_append]; omega) (by omega)).mono ?_; rintro e w3 ⟨rfl, i3, b3⟩))
        go_roundw
        case rel => exact ⟨j + 1, _, by omega, by omega, by go_num, i3, (hbw _ _ b1 b2).trans b3, HA2, HN2⟩
        case measure => simp [intOf]; omega
    · have hje : j - 1 = r.length := by omega
      have hkk : codeN r 0 = j - 1 := by
        rw [← HN.out]
        exact scan_end _ r (j - 1) (by omega)
      have hac := hfin hkk
      subst hac
      have hfv : fn = j := by rw [HC.out.2, hkk]; omega
      have hj2 : j = r.length + 1 := by omega
      have hm : min ((j : Int) + 1) ((r.length : Int) + 1) = (j : Int) := by omega
      have hrv : ((fn : Nat) : Int) = (j : Int) := by omega
      have hnl : decide ((j : Int) < (r.length : Int) + 1) = false := by simp; omega
      have HRV : Hid (((fn : Nat) : Int) = (j : Int)) := hrv
      have HSp2 : Hid (SpOk a (a + fn) ((leafS 5 0 acc).map Stp.ev) (leafS 5 0 acc)) := HSp
      clear hfin HN hfv hkk hrv hj2 hje hlt
      go_wp2_with (go_at_call 152; refine (HW.out wr _ hI hbel).mono ?_; rintro e w5 ⟨rfl, T5, K5⟩; obtain ⟨⟨⟨y1, y2⟩, ⟨y3, y4, y5⟩⟩, hKK⟩ := HK3.out wr w5 hbel K5)
      go_ret
      exact ⟨by rw [HRV.out]; rfl, ⟨_, HSp2.out, T5⟩, hKK⟩

end Go.Proofs.YtljcljipppjnoaaGreatDoor
