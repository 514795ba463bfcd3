import Derived.Test.YtljcljipppjnoaaGreatDoorJA08
import Derived.Test.YtljcljipppjnoaaGreatDoorJA20
namespace Go.Proofs.YtljcljipppjnoaaGreatDoor
def EvU (l:List Ev):Prop:=∀ e ∈ l,Utf e.text
def LsU (ls:List (List UInt8)):Prop:=∀ l ∈ ls,Utf l
theorem evU_app {a b:List Ev} (h:EvU a) (h2:EvU b):EvU (a++b):=fun e he=>(List.mem_append.1 he).elim (h e) (h2 e)
theorem evU_one (k:Int) (f:Bool) (v:Int) (t:List UInt8) (h:Utf t):EvU [⟨k,f,v,t⟩]:=fun e he=>by
  simp at he
  subst he
  exact h
theorem evU_nil:EvU []:=fun e he=>by cases he
theorem utf_drops (p:UInt8→Bool) (hp:∀ c,p c=true→c.toNat < 128) (l:List UInt8) (h:Utf l):Utf (l.dropWhile p):=by
  induction l with
  | nil=>exact h
  | cons c r ih =>
    rw [List.dropWhile_cons]
    split
    · next hc=>exact ih (utf_tail h (hp c hc))
    · exact h
theorem utf_ends (p:UInt8→Bool) (hp:∀ c,p c=true→c.toNat < 128) (m:List UInt8) (h:Utf m.reverse):Utf (m.dropWhile p).reverse:=by
  induction m with
  | nil=>exact h
  | cons c r ih =>
    rw [List.dropWhile_cons]
    split
    · next hc =>
      rw [List.reverse_cons] at h
      exact ih (utf_cut h r.reverse c [] rfl (hp c hc)).1
    · exact h
theorem isBl_low (c:UInt8) (h:isBl c=true):c.toNat < 128:=by
  simp [isBl] at h
  rcases h with rfl | rfl <;> decide
theorem utf_trim (l:List UInt8) (h:Utf l):Utf (trimL l):=by
  unfold trimL
  refine utf_ends isBl isBl_low _ ?_
  rw [List.reverse_reverse]
  exact utf_drops isBl isBl_low l h
theorem utf_lines (r:List UInt8):∀ cur,Utf (cur++r)→LsU (linesL cur r):=by
  induction r with
  | nil =>
    intro cur h l hl
    rw [List.append_nil] at h
    rw [linesL] at hl
    split at hl
    · cases hl
    · simp at hl
      subst hl
      exact h
  | cons c r ih =>
    intro cur h
    rw [linesL]
    split
    · next hc =>
      subst hc
      obtain ⟨h1,h2⟩:=utf_cut h cur 10 r rfl (by decide)
      intro l hl
      rcases List.mem_cons.1 hl with rfl | hl
      · exact h1
      · exact ih [] h2 l hl
    · exact ih (cur++[c]) (by simpa using h)
theorem lsU_take {ls:List (List UInt8)} (h:LsU ls) (n:Nat):LsU (ls.take n):=fun l hl=>h l (List.mem_of_mem_take hl)
theorem lsU_drop {ls:List (List UInt8)} (h:LsU ls) (n:Nat):LsU (ls.drop n):=fun l hl=>h l (List.mem_of_mem_drop hl)
theorem utf_flat {α:Type} (f:α→List UInt8) (l:List α) (h:∀ x ∈ l,Utf (f x)):Utf (l.flatMap f):=by
  induction l with
  | nil=>exact Utf.nil
  | cons x l ih =>
    rw [List.flatMap_cons]
    exact utf_append (h x (by simp)) (ih fun y hy=>h y (by simp [hy]))
theorem utf_lf:Utf [10]:=utf_low 10 (by decide)
theorem utf_join (ls:List (List UInt8)) (h:LsU ls):Utf (joinT ls):=by
  cases ls with
  | nil=>exact Utf.nil
  | cons l r =>
    refine utf_append (utf_trim l (h l (by simp))) (utf_flat _ r fun x hx=>?_)
    exact utf_append utf_lf (utf_trim x (h x (by simp [hx])))
theorem utf_code (ls:List (List UInt8)) (h:LsU ls):Utf (codeOf ls):=utf_flat _ ls fun x hx=>utf_append (h x hx) utf_lf
theorem drop_takeWhile {α:Type} (p:α→Bool) (l:List α):l.drop (l.takeWhile p).length=l.dropWhile p:=by
  induction l with
  | nil=>rfl
  | cons c r ih =>
    rw [List.takeWhile_cons,List.dropWhile_cons]
    split
    · simpa using ih
    · rfl
theorem take_takeWhile {α:Type} (p:α→Bool) (l:List α):∀ x ∈ l.take (l.takeWhile p).length,p x=true:=by
  induction l with
  | nil=>intro x hx;simp at hx
  | cons c r ih =>
    rw [List.takeWhile_cons]
    split
    · next hc =>
      intro x hx
      rw [List.length_cons,List.take_succ_cons] at hx
      rcases List.mem_cons.1 hx with rfl | hx
      · exact hc
      · exact ih x hx
    · intro x hx;simp at hx
theorem utf_level (l:List UInt8) (h:Utf l):Utf (l.drop (levelL l)):=by
  unfold levelL levelS
  split
  · exact h
  · show Utf (l.drop (l.takeWhile (· == 35)).length)
    rw [drop_takeWhile]
    refine utf_drops _ (fun c hc=>?_) l h
    simp at hc
    subst hc
    decide
theorem utf_unq (l:List UInt8) (hq:isQ l=true) (h:Utf l):Utf (unq l):=by
  cases l with
  | nil=>exact h
  | cons c r =>
    simp [isQ] at hq
    subst hq
    have hr:=utf_tail h (by decide)
    show Utf (unq1 r)
    cases r with
    | nil=>exact hr
    | cons d r =>
      rw [unq1]
      split
      · next hd =>
        have hd:d=32:=by simpa using hd
        subst hd
        exact utf_tail hr (by decide)
      · exact hr
theorem lsU_quote (ls:List (List UInt8)) (h:LsU ls):LsU (quoteIn ls):=by
  intro l hl
  unfold quoteIn at hl
  obtain ⟨x,hx,rfl⟩:=List.mem_map.1 hl
  have hq:isQ x=true:=by
    have:=take_takeWhile isQ ls x
    unfold quoteN scan at hx
    simp only [List.drop_zero,Nat.zero_add] at hx
    exact this hx
  exact utf_unq x hq (h x (List.mem_of_mem_take hx))
theorem utf_two (l:List UInt8) (h2:two l=true) (h:Utf l):Utf (l.drop 2):=by
  unfold two beginsS at h2
  cases l with
  | nil=>simp at h2
  | cons a r =>
    cases r with
    | nil=>simp at h2
    | cons b r =>
      simp at h2
      obtain ⟨rfl,rfl⟩:=h2
      exact utf_tail (utf_tail h (by decide)) (by decide)
theorem utf_item (l:List UInt8) (h2:itemL l=true) (h:Utf l):Utf (l.drop 2):=by
  unfold itemL itemS beginsS at h2
  cases l with
  | nil=>exact Utf.nil
  | cons a r =>
    cases r with
    | nil=>exact Utf.nil
    | cons b r =>
      have h45:a=45∧(b=32∨b=9):=by
        simp at h2
        rcases h2 with h2 | h2
        · exact ⟨h2.1.symm,Or.inl h2.2.symm⟩
        · exact ⟨h2.1.symm,Or.inr h2.2.symm⟩
      obtain ⟨rfl,hb⟩:=h45
      refine utf_tail (utf_tail h (by decide)) ?_
      rcases hb with rfl | rfl <;> decide
theorem lsU_more (ls:List (List UInt8)) (h:LsU ls) (n:Nat):LsU (moreAt ls n).1:=by
  induction hm:ls.length - n using Nat.strongRecOn generalizing n with
  | _ m ih =>
    have hge:=behind_ge ls n
    by_cases hl:behindS ls n < ls.length
    · cases h2:two ls[behindS ls n] with
      | true =>
        rw [more_go ls n _ rfl hl h2]
        intro l hx
        simp only [List.mem_append,List.mem_replicate,List.mem_cons] at hx
        rcases hx with ⟨_,rfl⟩ | rfl | hx
        · exact Utf.nil
        · exact utf_two _ h2 (h _ (List.getElem_mem hl))
        · exact ih (ls.length - (behindS ls n+1)) (by omega) (behindS ls n+1) rfl l hx
      | false=>rw [more_no ls n _ rfl hl h2];intro l hx;cases hx
    · rw [more_end ls n _ rfl hl];intro l hx;cases hx
theorem lsU_item (ls:List (List UInt8)) (h:LsU ls) (n:Nat) (hn:n < ls.length) (hi:itemL ls[n]=true):LsU (itemIn ls n):=by
  intro l hl
  unfold itemIn at hl
  rcases List.mem_cons.1 hl with rfl | hl
  · rw [List.getElem?_eq_getElem hn]
    exact utf_item _ hi (h _ (List.getElem_mem hn))
  · exact lsU_more ls h _ l hl
theorem evU_items (inner:List (List UInt8)→List Ev) (hI:∀ ls,LsU ls→EvU (inner ls)) (ls:List (List UInt8)) (h:LsU ls) (n:Nat) (hn:n < ls.length) (hi:itemL ls[n]=true):EvU (itemsAt inner ls n).1:=by
  induction hm:ls.length - n using Nat.strongRecOn generalizing n with
  | _ m ih =>
    have hev:EvU (itemEv inner ls n):=evU_app (evU_app (evU_one _ _ _ _ Utf.nil) (hI _ (lsU_item ls h n hn hi))) (evU_one _ _ _ _ Utf.nil)
    have hge:=behind_ge ls (moreAt ls (n+1)).2
    have hmg:=more_ge ls (n+1)
    by_cases hl:behindS ls (moreAt ls (n+1)).2 < ls.length
    · cases h2:itemL ls[behindS ls (moreAt ls (n+1)).2] with
      | true =>
        rw [items_go inner ls n _ rfl hl h2]
        exact evU_app hev (ih _ (by omega) _ hl h2 rfl)
      | false=>rw [items_no inner ls n _ rfl hl h2];exact hev
    · rw [items_end inner ls n _ rfl hl];exact hev
theorem evU_leaf (k v:Int) (t:List UInt8) (h:Utf t):EvU (leafS k v t):=by
  unfold leafS
  refine evU_app (evU_app (evU_one _ _ _ _ Utf.nil) ?_) (evU_one _ _ _ _ Utf.nil)
  split
  · exact evU_nil
  · exact evU_one _ _ _ _ h
theorem evU_step (inner:List (List UInt8)→List Ev) (hI:∀ ls,LsU ls→EvU (inner ls)) (depth:Int) (l:List UInt8) (r:List (List UInt8)) (h:LsU (l :: r)):EvU (stepS inner depth l (l :: r)).1:=by
  unfold stepS
  split
  · exact evU_leaf _ _ _ (utf_code _ (lsU_drop (lsU_take h _) _))
  split
  · exact evU_leaf _ _ _ (utf_trim _ (utf_level l (h l (by simp))))
  split
  · exact evU_app (evU_app (evU_one _ _ _ _ Utf.nil) (hI _ (lsU_quote _ h))) (evU_one _ _ _ _ Utf.nil)
  split
  · next h5 =>
    have hi:itemL l=true:=by
      unfold startsS at h5
      split at h5
      · exact absurd h5 (by decide)
      split at h5
      · exact absurd h5 (by decide)
      split at h5
      · exact absurd h5 (by decide)
      split at h5
      · next hh=>exact hh.1
      · exact absurd h5 (by decide)
    exact evU_app (evU_app (evU_one _ _ _ _ Utf.nil) (evU_items inner hI _ h 0 (by simp) hi)) (evU_one _ _ _ _ Utf.nil)
  · exact evU_leaf _ _ _ (utf_join _ (lsU_take h _))
theorem evU_blocks (inner:List (List UInt8)→List Ev) (hI:∀ ls,LsU ls→EvU (inner ls)) (depth:Int) (ls:List (List UInt8)) (h:LsU ls):EvU (blocksF inner depth ls):=by
  induction hm:ls.length using Nat.strongRecOn generalizing ls with
  | _ m ih =>
    cases ls with
    | nil=>simp [blocksF];exact evU_nil
    | cons l r =>
      rw [List.length_cons] at hm
      have hr:LsU r:=fun x hx=>h x (by simp [hx])
      rw [blocksF]
      split
      · exact ih r.length (by omega) r hr rfl
      · exact evU_app (evU_step inner hI depth l r h) (ih _ (by rw [List.length_drop];omega) _ (lsU_drop hr _) rfl)
theorem evU_blocksAt (d:Nat) (ls:List (List UInt8)) (h:LsU ls):EvU (blocksAt d ls):=by
  induction d generalizing ls with
  | zero=>exact evU_blocks _ (fun _ _=>evU_nil) 3 ls h
  | succ d ih=>exact evU_blocks _ ih _ ls h
def AccU (acc:List Ev) (r:List UInt8):Prop :=
  EvU acc.dropLast∧match acc.getLast? with
    | none=>Utf r
    | some e=>if e.kind=8 then Utf (e.text++r) else Utf e.text∧Utf r
theorem accU_last (pre:List Ev) (e:Ev) (r:List UInt8):AccU (pre++[e]) r ↔ EvU pre∧(if e.kind=8 then Utf (e.text++r) else Utf e.text∧Utf r):=by
  unfold AccU
  rw [List.dropLast_concat]
  simp
theorem accU_cut (acc:List Ev) (c:UInt8) (r:List UInt8) (hc:c.toNat < 128) (h:AccU acc (c :: r)):EvU acc∧Utf r:=by
  rcases List.eq_nil_or_concat acc with rfl | ⟨pre,e,rfl⟩
  · exact ⟨evU_nil,utf_tail h.2 hc⟩
  · rw [List.concat_eq_append] at h ⊢
    rw [accU_last] at h
    obtain ⟨h1,h2⟩:=h
    split at h2
    · obtain ⟨a1,a2⟩:=utf_cut h2 e.text c r rfl hc
      exact ⟨evU_app h1 (fun x hx=>by simp at hx;subst hx;exact a1),a2⟩
    · exact ⟨evU_app h1 (fun x hx=>by simp at hx;subst hx;exact h2.1),utf_tail h2.2 hc⟩
theorem accU_end (acc:List Ev) (h:AccU acc []):EvU acc:=by
  rcases List.eq_nil_or_concat acc with rfl | ⟨pre,e,rfl⟩
  · exact evU_nil
  · rw [List.concat_eq_append] at h ⊢
    rw [accU_last] at h
    obtain ⟨h1,h2⟩:=h
    refine evU_app h1 (fun x hx=>?_)
    simp at hx
    subst hx
    split at h2
    · simpa using h2
    · exact h2.1
theorem accU_add (acc:List Ev) (t r:List UInt8) (h:AccU acc (t++r)):AccU (addS acc t) r:=by
  rcases List.eq_nil_or_concat acc with rfl | ⟨pre,e,rfl⟩
  · have:addS [] t=[]++[⟨8,false,0,t⟩]:=by simp [addS]
    rw [this,accU_last]
    exact ⟨evU_nil,by simpa using h.2⟩
  · rw [List.concat_eq_append] at h ⊢
    rw [accU_last] at h
    obtain ⟨h1,h2⟩:=h
    rw [add_last]
    by_cases hk:e.kind=8
    · rw [if_pos hk] at h2
      rw [if_pos hk,accU_last]
      exact ⟨h1,by simp only [hk];simpa using h2⟩
    · rw [if_neg hk] at h2
      rw [if_neg hk]
      show AccU (pre++[e]++[⟨8,false,0,t⟩]) r
      rw [accU_last]
      exact ⟨evU_app h1 (fun x hx=>by simp at hx;subst hx;exact h2.1),by simpa using h2.2⟩
theorem accU_whole (acc m:List Ev) (r:List UInt8) (h:EvU acc) (hm:EvU m) (hr:Utf r):AccU (acc++m) r:=by
  have h3:=evU_app h hm
  generalize acc++m=l at h3
  rcases List.eq_nil_or_concat l with rfl | ⟨pre,e,rfl⟩
  · exact ⟨evU_nil,hr⟩
  · rw [List.concat_eq_append] at h3 ⊢
    rw [accU_last]
    have he:Utf e.text:=h3 e (by simp)
    refine ⟨fun x hx=>h3 x (by simp [hx]),?_⟩
    split
    · exact utf_append he hr
    · exact ⟨he,hr⟩
theorem accU_glue (acc m:List Ev) (r:List UInt8) (h:EvU acc) (hm:EvU m) (hr:Utf r):AccU (glue acc m) r:=by
  unfold glue
  split
  · next e =>
    split
    · refine accU_add acc e.text r ?_
      have he:Utf e.text:=hm e (by simp)
      have:=accU_whole acc [] (e.text++r) h evU_nil (utf_append he hr)
      simpa using this
    · exact accU_whole acc _ r h hm hr
  · exact accU_whole acc _ r h hm hr
theorem udrop_at {l:List UInt8} {i:Nat} {c:UInt8} (h:l[i]?=some c):l.drop i=c :: l.drop (i+1):=by
  obtain ⟨hlt,he⟩:=List.getElem?_eq_some_iff.1 h
  rw [List.drop_eq_getElem_cons hlt,he]
theorem utf_part {l:List UInt8} {i j:Nat} {c:UInt8} (h:Utf (l.drop i)) (hij:i≤j) (hj:l[j]?=some c) (hc:c.toNat < 128):Utf (cut l i j)∧Utf (l.drop (j+1)):=by
  have e:l.drop i=cut l i j++c :: l.drop (j+1):=by
    unfold cut
    have h1:=(List.take_append_drop (j - i) (l.drop i)).symm
    rw [List.drop_drop,show i+(j - i)=j by omega,udrop_at hj] at h1
    exact h1
  exact utf_cut h _ c _ e hc
theorem next_is (l:List UInt8) (c:UInt8) (k:Nat) (h:nextAt l c k < l.length):l[nextAt l c k]?=some c:=by
  unfold nextAt at h ⊢
  generalize hm:l.drop k=m at h ⊢
  have key:∀ m:List UInt8,(m.takeWhile fun x=>!(x == c)).length < m.length→m[(m.takeWhile fun x=>!(x == c)).length]?=some c:=by
    intro m
    induction m with
    | nil=>intro h;simp at h
    | cons a r ih =>
      intro h
      rw [List.takeWhile_cons] at h ⊢
      split
      · next ha =>
        rw [if_pos ha] at h
        simp only [List.length_cons] at h ⊢
        rw [List.getElem?_cons_succ]
        exact ih (by omega)
      · next ha =>
        simp at ha
        subst ha
        rfl
  have hl:m.length=l.length - k:=by rw [← hm,List.length_drop]
  have:=key m (by omega)
  rw [← hm,List.getElem?_drop] at this
  rw [← hm]
  exact this
theorem utf_spaced (l:List UInt8) (h:Utf l):Utf (spacedL l):=by
  induction h with
  | nil=>exact Utf.nil
  | cons r t hv _ ih =>
    have e:spacedL (Lib.encodeRune (r:Int)++t)=spacedL (Lib.encodeRune (r:Int))++spacedL t:=by simp [spacedL]
    rw [e]
    refine utf_append ?_ ih
    by_cases hr:r < 128
    · rw [enc_low r hr]
      simp only [spacedL,List.map_cons,List.map_nil]
      split
      · exact utf_low 32 (by decide)
      · refine utf_low _ ?_
        rw [UInt8.toNat_ofNat']
        omega
    · have hh:=enc_high r hv (by omega)
      have e2:spacedL (Lib.encodeRune (r:Int))=Lib.encodeRune (r:Int):=by
        unfold spacedL
        refine (List.map_congr_left (g:=id) fun c hc=>?_).trans (List.map_id _)
        have:=hh c hc
        rw [if_neg (fun e=>by subst e;exact absurd this (by decide))]
        rfl
      rw [e2]
      have:=Utf.cons r [] hv Utf.nil
      simpa using this
theorem sign_low (c:UInt8) (h:signS c=true):c.toNat < 128:=by
  simp [signS,signN] at h
  omega
theorem pfrom_is (l:List UInt8) (j:Nat) (h:pfrom l j < l.length):l[pfrom l j]?=some 42:=by
  induction hm:l.length - j using Nat.strongRecOn generalizing j with
  | _ m ih =>
    by_cases hh:j < l.length∧l[j]? ≠ some 42
    · rw [pfrom_go l j hh.1 hh.2] at h ⊢
      have:=pnext_gt l j
      exact ih _ (by omega) _ h rfl
    · rw [pfrom_at l j hh] at h ⊢
      exact Classical.byContradiction fun hn=>hh ⟨h,hn⟩
theorem one_utf (inner:List UInt8→Bool→List Ev) (hI:∀ l ins,Utf l→EvU (inner l ins)) (l:List UInt8) (i:Nat) (ins:Bool) (acc:List Ev) (h:AccU acc (l.drop i)) (hne:(oneS inner l i ins).2 ≠ 0) :
    EvU acc∧EvU (oneS inner l i ins).1∧Utf (l.drop (i+(oneS inner l i ins).2)):=by
  have start:∀ c:UInt8,l[i]?=some c→c.toNat < 128→EvU acc∧Utf (l.drop (i+1)):=fun c hc hl=>by
    rw [udrop_at hc] at h
    exact accU_cut acc c _ hl h
  unfold oneS at hne ⊢
  split
  · next h92 =>
    obtain ⟨s1,s2⟩:=start 92 h92 (by decide)
    rw [if_pos h92] at hne
    split
    · next h10=>exact ⟨s1,evU_one _ _ _ _ Utf.nil,(utf_part s2 (Nat.le_refl _) h10 (by decide)).2⟩
    · next h10 =>
      rw [if_neg h10] at hne
      split
      · next hs =>
        cases hx:l[i+1]? with
        | none=>rw [hx] at hs;simp at hs
        | some c =>
          rw [hx] at hs
          simp at hs
          have hc:=sign_low c hs
          refine ⟨s1,evU_one _ _ _ _ ?_,(utf_part s2 (Nat.le_refl _) hx hc).2⟩
          have e:cut l (i+1) (i+2)=[c]:=by
            unfold cut
            rw [udrop_at hx,show i+2 - (i+1)=1 by omega]
            rfl
          rw [e]
          exact utf_low c hc
      · next hs=>rw [if_neg hs] at hne;exact absurd rfl hne
  next h92 =>
  rw [if_neg h92] at hne
  split
  · next h10 =>
    obtain ⟨s1,s2⟩:=start 10 h10 (by decide)
    exact ⟨s1,evU_one _ _ _ _ Utf.nil,s2⟩
  next h10 =>
  rw [if_neg h10] at hne
  split
  · next h96 =>
    obtain ⟨s1,s2⟩:=start 96 h96 (by decide)
    rw [if_pos h96] at hne
    split
    · next hn =>
      have hge:i+1≤nextAt l 96 (i+1):=Nat.le_add_right _ _
      obtain ⟨p1,p2⟩:=utf_part s2 hge (next_is l 96 _ hn) (by decide)
      refine ⟨s1,evU_one _ _ _ _ (utf_spaced _ p1),?_⟩
      show Utf (l.drop (i+(nextAt l 96 (i+1)+1 - i)))
      rw [show i+(nextAt l 96 (i+1)+1 - i)=nextAt l 96 (i+1)+1 by omega]
      exact p2
    · next hn=>rw [if_neg hn] at hne;exact absurd rfl hne
  next h96 =>
  rw [if_neg h96] at hne
  split
  · next h91 =>
    obtain ⟨s1,s2⟩:=start 91 h91 (by decide)
    rw [if_pos h91] at hne
    cases hk:linkS l i with
    | none=>rw [hk] at hne;exact absurd rfl hne
    | some x =>
      simp only
      unfold linkS at hk
      split at hk
      · next hh =>
        obtain ⟨k1,k2,k3,k4⟩:=hh
        injection hk with hk
        subst hk
        have g1:i≤nextAt l 93 i:=Nat.le_add_right _ _
        have n1:=next_is l 93 i k1
        have g1':i+1≤nextAt l 93 i:=by
          apply Nat.lt_of_le_of_ne g1
          intro e
          rw [← e,h91] at n1
          exact absurd n1 (by decide)
        obtain ⟨p1,p2⟩:=utf_part s2 g1' n1 (by decide)
        obtain ⟨_,p3⟩:=utf_part p2 (Nat.le_refl _) k3 (by decide)
        have g2:nextAt l 93 i+2≤stopAt l (nextAt l 93 i+2):=Nat.le_add_right _ _
        obtain ⟨p4,p5⟩:=utf_part p3 g2 k4 (by decide)
        refine ⟨s1,evU_app (evU_app (evU_one _ _ _ _ p4) (hI _ _ p1)) (evU_one _ _ _ _ Utf.nil),?_⟩
        rw [show i+(stopAt l (nextAt l 93 i+2)+1 - i)=stopAt l (nextAt l 93 i+2)+1 by omega]
        exact p5
      · cases hk
  next h91 =>
  rw [if_neg h91] at hne
  split
  · next h42 =>
    obtain ⟨s1,s2⟩:=start 42 h42 (by decide)
    rw [if_pos h42] at hne
    split
    · next hin=>rw [if_pos hin] at hne;exact absurd rfl hne
    · next hin =>
      rw [if_neg hin] at hne
      cases hk:partnerS l i with
      | none=>rw [hk] at hne;exact absurd rfl hne
      | some j =>
        simp only
        unfold partnerS at hk
        split at hk
        · next hh =>
          injection hk with hk
          subst hk
          have hat:l[pfrom l (i+1)]?=some 42:=pfrom_is l (i+1) hh.1
          have hge:=pfrom_ge l (i+1)
          obtain ⟨p1,p2⟩:=utf_part s2 hge hat (by decide)
          refine ⟨s1,evU_app (evU_app (evU_one _ _ _ _ Utf.nil) (hI _ _ p1)) (evU_one _ _ _ _ Utf.nil),?_⟩
          rw [show i+(pfrom l (i+1)+1 - i)=pfrom l (i+1)+1 by omega]
          exact p2
        · cases hk
  next h42 =>
  rw [if_neg h42] at hne
  exact absurd rfl hne
theorem inl_utf (inner:List UInt8→Bool→List Ev) (hI:∀ l ins,Utf l→EvU (inner l ins)) (l:List UInt8) (ins:Bool) (i:Nat) (acc:List Ev) (h:AccU acc (l.drop i)):EvU (inlFrom inner l ins i acc):=by
  induction hm:l.length - i using Nat.strongRecOn generalizing i acc with
  | _ m ih =>
    rw [inlFrom]
    by_cases hi:i < l.length
    · rw [dif_pos hi]
      split
      · refine ih _ (by omega) _ _ (accU_add acc _ _ ?_) rfl
        have e:cut l i (i+1)++l.drop (i+1)=l.drop i:=by
          unfold cut
          rw [show i+1 - i=1 by omega,← List.drop_drop,List.take_append_drop]
        rw [e]
        exact h
      · next hne =>
        obtain ⟨o1,o2,o3⟩:=one_utf inner hI l i ins acc h hne
        exact ih _ (by omega) _ _ (accU_glue acc _ _ o1 o2 o3) rfl
    · rw [dif_neg hi]
      rw [List.drop_eq_nil_of_le (by omega)] at h
      exact accU_end acc h
theorem inlF_utf (f:Nat) (l:List UInt8) (ins:Bool) (h:Utf l):EvU (inlineF f l ins):=by
  induction f generalizing l ins with
  | zero=>exact evU_nil
  | succ f ih=>exact inl_utf (inlineF f) ih l ins 0 [] ⟨evU_nil,h⟩
theorem events_utf (t:List UInt8) (h:Utf t):EvU (eventsS t):=by
  intro e he
  unfold eventsS evUpto at he
  obtain ⟨i,_,hi⟩:=List.mem_flatMap.1 he
  have hb:=evU_blocksAt 3 _ (utf_lines t [] h)
  unfold evAt at hi
  cases hx:(blocksAt 3 (linesL [] t))[i]? with
  | none=>rw [hx] at hi;cases hi
  | some x =>
    rw [hx] at hi
    simp only at hi
    have hxu:=hb x (List.mem_of_getElem? hx)
    split at hi
    · exact inlF_utf _ x.text false hxu e hi
    · simp at hi
      subst hi
      exact hxu
end Go.Proofs.YtljcljipppjnoaaGreatDoor
