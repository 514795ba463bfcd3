import Derived.Test.YtljcljipppjnoaaGreatDoorJA18
import Derived.Test.YtljcljipppjnoaaGreatDoorJA43
import Derived.Test.YtljcljipppjnoaaGreatDoorJA44
import Derived.Laws.IdiomCopy
import Derived.Laws.MakeOwn
namespace Go.Proofs.YtljcljipppjnoaaGreatDoor
open Go.RowKit
theorem copy_str (w:World) (ty:TypeId) (b len cap:Nat) (s:ByteArray) (cur:Array Value) (hb:w.heap[b]?=some (.cells cur 5 (0,0))) (hl:len≤s.size) (hc:len≤cur.size) :
    (Builtin.copy_ #[107,9] ty #[.slice (some ⟨b,0,none⟩) len cap,.string s]).run Tryz.prog w=.ok (.int .i64 len) (w.setCells b 0 (Lib.byteCells (s.data.toList.take len))):=by
  obtain ⟨i0,hi,hz0,hz1,hz2⟩:=info_parts Tryz.infoByte
  have hbl:(Lib.byteCells (s.data.toList.take len)).length=len:=by
    rw [Lib.byteCells_length,List.length_take,Array.length_toList]
    exact Nat.min_eq_left hl
  have hst:=run_storeCells_cells (P:=Tryz.prog) b 0 (Lib.byteCells (s.data.toList.take len)) 0 w (fun j hj=>by
      rw [hbl] at hj
      have:w.cell? ⟨b,0+0+j,none⟩=some cur[j]:=row_cell hb (by simp)
      rw [this]
      rfl) (fun j _=>row_free (i:=0+0+j) hb) (byte_one _)
  have hmin:Nat.min s.size len=len:=Nat.min_eq_right hl
  simp [Builtin.copy_,run_underlying Tryz.underlying107,Builtin.lenOf,Builtin.firstCells,sizeOf,typeInfo,hi,hmin]
  have e:List.take len (List.map (fun b:UInt8=>Value.int .u8 (b.toNat:Int)) s.data.toList)=Lib.byteCells (s.data.toList.take len):=by simp [Lib.byteCells,List.map_take]
  rw [e,hst]
  rfl
theorem setCells_block (b:Nat):∀ (vs:List Value) (o:Nat) (w:World) (cur:Array Value) (T:TypeId),w.heap[b]?=some (.cells cur T (0,0))→o+vs.length≤cur.size→∃ cur',(w.setCells b o vs).heap[b]?=some (.cells cur' T (0,0))∧cur'.size=cur.size∧(∀ j v,vs[j]?=some v→cur'[o+j]?=some v)∧∀ j,j < o→cur'[j]?=cur[j]?:=by
  intro vs
  induction vs with
  | nil=>intro o w cur T h _;exact ⟨cur,h,rfl,fun j v hv=>by simp at hv,fun _ _=>rfl⟩
  | cons v r ih =>
    intro o w cur T h hl
    rw [List.length_cons] at hl
    have h1:(w.setCell ⟨b,o,none⟩ v).heap[b]?=some (.cells (cur.setIfInBounds o v) T (0,0)):=Joins.block_setCell (i:=o) h v
    obtain ⟨cur',a1,a2,a3,a4⟩:=ih (o+1) _ _ T h1 (by simp;omega)
    refine ⟨cur',a1,by rw [a2];simp,fun j u hu=>?_,fun j hj=>?_⟩
    · cases j with
      | zero =>
        simp at hu
        subst hu
        rw [Nat.add_zero,a4 o (by omega),Array.getElem?_setIfInBounds_self_of_lt (by omega)]
      | succ j =>
        have:=a3 j u (by simpa using hu)
        rwa [show o+(j+1)=o+1+j by omega]
    · rw [a4 j (by omega),Array.getElem?_setIfInBounds_ne (by omega)]
theorem setCells_other (b:Nat):∀ (vs:List Value) (o:Nat) (w:World) (k:Nat),k ≠ b→(w.setCells b o vs).heap[k]?=w.heap[k]?:=by
  intro vs
  induction vs with
  | nil=>intro o w k _;rfl
  | cons v r ih=>intro o w k hk;rw [World.setCells,ih (o+1) _ k hk,Below.heap_setCell _ _ _ _ hk]
theorem setCells_size (b:Nat):∀ (vs:List Value) (o:Nat) (w:World),(w.setCells b o vs).heap.size=w.heap.size∧(w.setCells b o vs).os=w.os∧(w.setCells b o vs).tape=w.tape∧(w.setCells b o vs).output=w.output:=by
  intro vs
  induction vs with
  | nil=>intro o w;exact ⟨rfl,rfl,rfl,rfl⟩
  | cons v r ih =>
    intro o w
    obtain ⟨a,b,c,d⟩:=ih (o+1) (w.setCell ⟨b,o,none⟩ v)
    exact ⟨a.trans (by simp),b,c,d⟩
def bufd (w:World) (n:Nat) (bs:List UInt8):World:=(w.alloc (.cells (madeCells #[.int .u8 0] n) 5)).setCells w.heap.size 0 (Lib.byteCells bs)
theorem bufd_facts (w:World) (n:Nat) (bs:List UInt8) (hl:bs.length=n):(bufd w n bs).heap.size=w.heap.size+1∧Below w.heap.size w (bufd w n bs)∧∃ cur,(bufd w n bs).heap[w.heap.size]?=some (.cells cur 5 (0,0))∧∀ (j:Nat) (c:UInt8),bs[j]?=some c→cur[0+j]?=some (.int .u8 c.toNat):=by
  have h0:(w.alloc (.cells (madeCells #[.int .u8 0] n) 5)).heap[w.heap.size]?=some (.cells (madeCells #[.int .u8 0] n) 5 (0,0)):=heap_new _ _ rfl
  obtain ⟨z1,z2,z3,z4⟩:=setCells_size w.heap.size (Lib.byteCells bs) 0 (w.alloc (.cells (madeCells #[.int .u8 0] n) 5))
  obtain ⟨cur',a1,a2,a3,a4⟩:=setCells_block w.heap.size (Lib.byteCells bs) 0 _ _ 5 h0 (by rw [Lib.byteCells_length,size_madeCells];omega)
  refine ⟨z1.trans (by simp),⟨z2,z3,z4,by show _≤(bufd w n bs).heap.size;unfold bufd;rw [z1];simp,fun k hk=>?_⟩,cur',a1,fun j c hc=>?_⟩
  · unfold bufd
    rw [setCells_other _ _ _ _ _ (by omega),Below.heap_alloc _ _ _ hk]
  · exact a3 j _ (by simp [Lib.byteCells,hc])
end Go.Proofs.YtljcljipppjnoaaGreatDoor
namespace Go.Proofs.YtljcljipppjnoaaGreatDoor
open Go.RowKit
set_option maxHeartbeats 1000000 in
theorem failed_any (n:Int) (er:Value) (hie:er=.nilIface∨∃ u x,er=.iface u x) (w:World) :
    Calls Tryz.prog 136 #[.int .i64 n,er] w fun e w'=>e=.returned (.iface 141 (.pointer (some ⟨w.heap.size,0,none⟩)))∧w'=w.alloc (.cells #[.int .i64 n,er] 142):=by
  rcases hie with rfl | ⟨u,x,rfl⟩
  all_goals
    go_enter Tryz.func136,Tryz.ntmps136
    go_wp2
    go_ret
    exact ⟨rfl,rfl⟩
def NextOut (RR:Int→Value→World→Prop) (bo n tk:Nat) (left:List UInt8) (vS:Value) (e:Ending) (w':World):Prop :=
  ∃ (k:Int) (er:Value) (w1:World),RR k er w1 ∧
    ((er ≠ .nilIface∧e=.returned (.iface 141 (.pointer (some ⟨w1.heap.size,0,none⟩)))∧∃ d,w'=(w1.drewN d).alloc (.cells #[.int .i64 tk,er] 142)) ∨
     (er=.nilIface∧(k < 1∨(n:Int) < k)∧e=.returned (.iface 141 (.pointer (some ⟨w1.heap.size,0,none⟩)))∧∃ d,w'=(w1.drewN d).alloc (.cells #[.int .i64 tk,vS] 142)) ∨
     (er=.nilIface∧∃ m:Nat,k=m∧1≤m∧m≤n∧e=.returned .nilIface∧w'=(w1.setCell ⟨bo,1,none⟩ (.string ⟨(left.drop m).toArray⟩)).setCell ⟨bo,2,none⟩ (.int .i64 ((tk+m:Nat):Int))))
set_option maxRecDepth 100000 in
set_option maxHeartbeats 4000000 in
theorem next_walk (bo n tk:Nat) (sv vS:Value) (left:List UInt8) (hL:left.length≤1099511627776) (hn1:1≤n) (hnl:n≤left.length∧n≤16∧(left.length≤n∨16≤n)) (htk:tk≤1099511627776) (uS xS:_) (hvS:vS=.iface uS xS) (_hsv:sv=.nilIface∨∃ u x,sv=.iface u x) (W:World)
    (hb:W.heap[bo]?=some (.cells #[sv,.string ⟨left.toArray⟩,.int .i64 tk] 184 (0,0))) (RR:Int→Value→World→Prop)
    (hT:Calls Tryz.prog 135 #[sv,.slice (some ⟨W.heap.size,0,none⟩) n n] (bufd W n (left.take n)) fun e w'=>∃ (k:Int) (er:Value),e=.returned (.tuple #[.int .i64 k,er])∧(er=.nilIface∨∃ u x,er=.iface u x)∧RR k er w'∧w'.heap[bo]?=some (.cells #[sv,.string ⟨left.toArray⟩,.int .i64 tk] 184 (0,0))∧w'.cell? ⟨0,0,none⟩=some vS) :
    Calls Tryz.prog 115 #[.pointer (some ⟨bo,0,none⟩)] W (NextOut RR bo n tk left vS):=by
  subst hvS
  have hz:=size_of left
  obtain ⟨i0,hi,hz0,hz1,hz2⟩:=info_parts Tryz.infoByte
  have hmk:∀ m:Nat,m≤16→(Instr.makeSlice 107 (.int .i64 (m:Int)) (.int .i64 (m:Int))).run Tryz.prog W=.ok (.slice (some ⟨W.heap.size,0,none⟩) m m) (W.alloc (.cells (madeCells #[.int .u8 0] m) 5)):=by
    intro m hm
    have:=run_makeSlice (P:=Tryz.prog) (w:=W) 107 5 i0 (.int .u8 0) Tryz.underlying107 hi hz0 .i64 .i64 m m (by omega) (by omega) (by rw [hz1];simp;omega) (by rw [hz2];omega) (by omega)
    rw [hz1] at this
    simp only [Int.toNat_natCast,Nat.mul_one] at this
    exact this
  have hcp:(Builtin.copy_ #[107,9] 3 #[.slice (some ⟨W.heap.size,0,none⟩) n n,.string ⟨left.toArray⟩]).run Tryz.prog (W.alloc (.cells (madeCells #[.int .u8 0] n) 5))=.ok (.int .i64 n) (bufd W n (left.take n)):=by
    have:=copy_str (W.alloc (.cells (madeCells #[.int .u8 0] n) 5)) 3 W.heap.size n n ⟨left.toArray⟩ (madeCells #[.int .u8 0] n) (heap_new _ _ rfl) (by rw [hz];omega) (by rw [size_madeCells];omega)
    rw [this]
    rfl
  have hbl:bo < W.heap.size:=lt_of_block hb
  obtain ⟨q1,q2,cur,q3,q4⟩:=bufd_facts W n (left.take n) (by rw [List.length_take];omega)
  have hb2:=(q2.block bo hbl).trans hb
  have c0:=row_cell (i:=0) hb rfl
  have c1:=row_cell (i:=1) hb rfl
  have c2:=row_cell (i:=2) hb rfl
  have d0:=row_cell (i:=0) hb2 rfl
  obtain ⟨W2,hW2⟩:∃ W2,bufd W n (left.take n)=W2:=⟨_,rfl⟩
  rw [hW2] at hT hcp d0
  have hm16:=hmk n (by omega)
  clear hmk q1 q2 q3 q4 hb2 hW2 hi hz0 hz1 hz2 cur
  go_enter Tryz.func115,Tryz.ntmps115
  go_upto_region 1 with fail
  go_cut [3] (fun v3 wx=>v3=.int .i64 (n:Int)∧wx=W)
  case first =>
    go_wp2
    all_goals
      go_meet
      exact ⟨congrArg (Value.int IntKind.i64) (by omega),rfl⟩
  case rest =>
    obtain ⟨rfl,hwc⟩:=hcut
    rw [hwc]
    clear hwc
    have hT2:Calls Tryz.prog 135 #[sv,.slice (some ⟨W.heap.size,0,none⟩) n n] W2 fun e w'=>∃ (k:Int) (er:Value),e=.returned (.tuple #[.int .i64 k,er])∧Hid ((er=.nilIface∨∃ u x,er=.iface u x)∧RR k er w'∧w'.heap[bo]?=some (.cells #[sv,.string ⟨left.toArray⟩,.int .i64 tk] 184 (0,0))∧w'.cell? ⟨0,0,none⟩=some (.iface uS xS)):=hT
    clear hT
    go_wp2_with (go_at_call 135;refine hT2.mono ?_)
    rintro e w1 ⟨k,er,rfl,HI⟩
    obtain ⟨hie,hr,hb1,hS1⟩:=HI.out
    have x1:=row_cell (i:=1) hb1 rfl
    have x2:=row_cell (i:=2) hb1 rfl
    have y1:=row_free (i:=1) hb1
    have y2:=row_free (i:=2) hb1
    have HR:Hid (RR k er w1):=hr
    clear HI hr hT2 hcp hm16 c0 c1 c2 d0 hb hbl
    rcases hie with rfl | ⟨u,x,rfl⟩
    · have hk:k < 1∨(n:Int) < k∨∃ m:Nat,k=m∧1≤m∧m≤n:=by
        by_cases h1:k < 1
        · exact Or.inl h1
        · by_cases h2:(n:Int) < k
          · exact Or.inr (Or.inl h2)
          · exact Or.inr (Or.inr ⟨k.toNat,by omega,by omega,by omega⟩)
      have cF:=fun W=>failed_any tk (.iface uS xS) (Or.inr ⟨uS,xS,rfl⟩) W
      rcases hk with hk | hk | ⟨m,rfl,hm1,hm2⟩
      · have g1:decide (k < 1)=true:=by simpa using hk
        have HK:Hid (k < 1∨(n:Int) < k):=Or.inl hk
        clear hk
        go_wp2
        go_region_with (go_at_call 136;refine (cF _).mono ?_;rintro e w2 ⟨rfl,rfl⟩)
        all_goals
          go_wp2
          go_ret
          exact ⟨k,_,w1,HR.out,Or.inr (Or.inl ⟨rfl,HK.out,rfl,1,rfl⟩)⟩
      · have g1:decide ((n:Int) < k)=true:=by simpa using hk
        have g2:decide (k < 1)=false:=by simp;omega
        have HK:Hid (k < 1∨(n:Int) < k):=Or.inr hk
        clear hk
        go_wp2
        go_region_with (go_at_call 136;refine (cF _).mono ?_;rintro e w2 ⟨rfl,rfl⟩)
        all_goals
          go_wp2
          go_ret
          exact ⟨k,_,w1,HR.out,Or.inr (Or.inl ⟨rfl,HK.out,rfl,1,rfl⟩)⟩
      · have g1:decide ((m:Int) < 1)=false:=by simp;omega
        have g2:decide ((n:Int) < (m:Int))=false:=by simp;omega
        have hml:m≤left.length:=by omega
        have HX:Hid ((⟨left.toArray⟩:ByteArray).extract m left.length=⟨(left.drop m).toArray⟩):=by
          show _=_
          apply ByteArray.ext
          apply Array.ext'
          rw [Lib.extract_data]
          simp
          exact List.take_of_length_le (by simp)
        go_wp2
        go_ret
        refine ⟨m,_,w1,HR.out,Or.inr (Or.inr ⟨rfl,m,rfl,hm1,hm2,rfl,?_⟩)⟩
        rw [HX.out]
        rfl
    · have cF:=fun W=>failed_any tk (.iface u x) (Or.inr ⟨u,x,rfl⟩) W
      go_wp2_with (go_at_call 136;refine (cF _).mono ?_;rintro e w2 ⟨rfl,hw⟩;rw [hw];clear hw)
      go_ret
      exact ⟨k,_,w1,HR.out,Or.inl ⟨by simp,rfl,0,rfl⟩⟩
end Go.Proofs.YtljcljipppjnoaaGreatDoor
namespace Go.Proofs.YtljcljipppjnoaaGreatDoor
open Go.RowKit
structure Ou where
  tv:Value
  ts:List Int
  fa:Int
  la:Int
  li:Int
def Ou.one (u:Ou):Bool:=decide (u.ts=[1])
structure Ou.Ok (u:Ou) (w0:World):Prop where
  takes:(u.ts=[]∧∃ ta tc,u.tv=.slice ta 0 tc)∨(u.ts ≠ []∧∃ tg tp tc,u.tv=.slice (some ⟨tg,tp,none⟩) u.ts.length tc∧tg < w0.heap.size∧∀ (i:Nat) (t:Int),u.ts[i]?=some t→w0.cell? ⟨tg,tp+i,none⟩=some (.int .i64 t)∧-9223372036854775808≤t∧t≤9223372036854775807)
  len:u.ts.length≤1048576
structure SkAt (u:Ou) (bk of mo:Nat) (got:List UInt8) (O:Nat→Prop) (W:World):Prop where
  box:∃ (a:Nat) (gv:Value),SnkAt bk u.tv a u.fa u.la u.li of mo false gv W∧W.ownsRow 0 5 1 gv got.length (Lib.byteCells got)∧(∀ x,gv.ownBlock=some x→O x∧x ≠ bk)∧a≤of
  own:O bk
  lt:∀ x,O x→x < W.heap.size
theorem SkAt.keep {u:Ou} {bk of mo:Nat} {got:List UInt8} {O:Nat→Prop} {W w':World} (h:SkAt u bk of mo got O W) (hk:∀ x,O x→w'.heap[x]?=W.heap[x]?) (hz:W.heap.size≤w'.heap.size):SkAt u bk of mo got O w':=by
  obtain ⟨a,gv,h1,h2,h3,h4⟩:=h.box
  refine ⟨⟨a,gv,(hk _ h.own).trans h1,⟨h2.1,?_⟩,h3,h4⟩,h.own,fun x hx=>Nat.lt_of_lt_of_le (h.lt x hx) hz⟩
  rcases h2.2 with h0 | ⟨g,cap,cur,hv,hg,hh,r⟩
  · exact Or.inl h0
  · exact Or.inr ⟨g,cap,cur,hv,hg,(hk g (h3 g (by rw [hv];rfl)).1).trans hh,r⟩
def TookV (of m:Nat) (fa la li:Int) (k:Int) (er:Value):Prop :=
  (((of+1:Nat):Int)=la∧k=li∧er=.nilIface) ∨
  (((of+1:Nat):Int) ≠ la∧((of+1:Nat):Int)=fa∧k=m∧∃ p,er=.iface 133 (.pointer (some p))) ∨
  (((of+1:Nat):Int) ≠ la∧((of+1:Nat):Int) ≠ fa∧k=m∧er=.nilIface)
theorem TookE.vals {of m:Nat} {fa la li:Int} {w:World} {e:Ending} {w':World} (h:TookE of m fa la li w e w'):∃ k er,e=.returned (.tuple #[.int .i64 k,er])∧(er=.nilIface∨∃ u x,er=.iface u x)∧TookV of m fa la li k er:=by
  rcases h with ⟨h1,rfl⟩ | ⟨h1,h2,p,rfl,_⟩ | ⟨h1,h2,rfl⟩
  · exact ⟨li,.nilIface,rfl,Or.inl rfl,Or.inl ⟨h1,rfl,rfl⟩⟩
  · exact ⟨m,_,rfl,Or.inr ⟨_,_,rfl⟩,Or.inr (Or.inl ⟨h1,h2,rfl,_,rfl⟩)⟩
  · exact ⟨m,.nilIface,rfl,Or.inl rfl,Or.inr (Or.inr ⟨h1,h2,rfl,rfl⟩)⟩
theorem SkAt.took {u:Ou} {bk of mo:Nat} {got:List UInt8} {O:Nat→Prop} {W:World} (h:SkAt u bk of mo got O W) {gb n m a a':Nat} {cur:Array Value} {bs:List UInt8} {gv gv':Value} {w':World}
    (h3:∀ x,gv.ownBlock=some x→O x∧x ≠ bk) (ha':a'≤of+1) (hm:m≤bs.length) (t:TookC 0 bk gb 0 n m cur bs u.tv a a' of mo u.fa u.la u.li false gv got W gv' w') :
    ∃ O',SkAt u bk (of+1) (max mo n) (got++bs.take m) O' w'∧Fp (fun x=>O x∨x=gb) O' W w':=by
  have hz:=t.kept.size
  have hbk:=h.lt bk h.own
  have hlm:(got++bs.take m).length=got.length+m:=by rw [List.length_append,List.length_take];omega
  refine ⟨fun x=>O x∨(W.heap.size≤x∧x < w'.heap.size),⟨⟨a',gv',t.snk,by rw [hlm];exact t.own,fun x hx=>?_,ha'⟩,Or.inl h.own,fun x hx=>?_⟩,⟨t.kept.os,t.kept.tape,t.kept.output,hz,fun x hx ho=>t.kept.block x hx ?_,fun x hx=>?_⟩⟩
  · rcases t.row with e | ⟨g,e,hg⟩
    · obtain ⟨q1,q2⟩:=h3 x (e ▸ hx)
      exact ⟨Or.inl q1,q2⟩
    · rw [e] at hx
      injection hx with hx
      subst hx
      refine ⟨Or.inr ⟨hg,?_⟩,by omega⟩
      rcases t.own.2 with ⟨h0,_⟩ | ⟨g',cap,cur',hv,hg',hh,r⟩
      · rw [h0] at e;cases e
      · rw [hv] at e
        injection e with e
        have e:g'=g:=e
        subst e
        exact (Array.getElem?_eq_some_iff.1 hh).1
  · rcases hx with hx | hx
    · have:=h.lt x hx;omega
    · exact hx.2
  · rintro (rfl | rfl | e)
    · exact ho (Or.inl h.own)
    · exact ho (Or.inr rfl)
    · exact ho (Or.inl (h3 x e).1)
  · rcases hx with hx | hx
    · exact Or.inl (Or.inl hx)
    · exact Or.inr hx.1
theorem sk_take {w0:World} {u:Ou} (hu:u.Ok w0) {bk of mo:Nat} {got:List UInt8} {O:Nat→Prop} {W:World} (h:SkAt u bk of mo got O W) (hW:Below w0.heap.size w0 W) (hlow:∀ x,O x→w0.heap.size≤x) (hof:of≤68719476736) (hgl:got.length≤1099511627776)
    {gb n:Nat} {cur:Array Value} {bs:List UInt8} (hn:1≤n∧n≤16) (hbs:bs.length=n) (hgb:W.heap[gb]?=some (.cells cur 5 (0,0))) (hcur:∀ (j:Nat) (c:UInt8),bs[j]?=some c→cur[0+j]?=some (.int .u8 c.toNat)) (hO:¬ O gb) :
    Calls Tryz.prog 260 #[.pointer (some ⟨bk,0,none⟩),.slice (some ⟨gb,0,none⟩) n n] W fun e w'=>∃ (m:Nat) (O':Nat→Prop),(1≤m∧m≤n)∧(u.one=true→m=1)∧SkAt u bk (of+1) (max mo n) (got++bs.take m) O' w'∧Fp (fun x=>O x∨x=gb) O' W w'∧TookE of m u.fa u.la u.li W e w':=by
  obtain ⟨a,gv,h1,h2,h3,h4⟩:=h.box
  have hd1:gb ≠ bk:=fun e=>hO (e ▸ h.own)
  have hd2:gv.ownBlock ≠ some bk:=fun e=>(h3 bk e).2 rfl
  have hd3:gv.ownBlock ≠ some gb:=fun e=>hO (h3 gb e).1
  rcases hu.takes with ⟨e0,ta,tc,ht⟩ | ⟨e0,tg,tp,tc,ht,htl,hts⟩
  · have h1':=h1
    rw [ht] at h1'
    refine (take_all 0 bk gb 0 n n cur bs ta tc a of mo u.fa u.la u.li false gv got W h1' ⟨hn.1,by omega⟩ (by omega) hbs hgb hcur (Nat.le_refl _) h2 (Nat.zero_le _) hgl hd1 hd2 hd3).mono ?_
    rintro e w' ⟨gv',t,te⟩
    rw [← ht] at t
    obtain ⟨O',s1,s2⟩:=h.took h3 (by omega) (by omega) t
    exact ⟨n,O',⟨hn.1,Nat.le_refl _⟩,fun ho=>by simp [Ou.one,e0] at ho,s1,s2,te⟩
  · have hpos:0 < u.ts.length:=List.length_pos_iff.2 e0
    have hml:=Nat.mod_lt a hpos
    obtain ⟨t,hti⟩:∃ t,u.ts[a % u.ts.length]?=some t:=⟨_,List.getElem?_eq_getElem hml⟩
    obtain ⟨q1,q2⟩:=hts _ t hti
    have h1':=h1
    rw [ht] at h1'
    have hul:=hu.len
    have hz:=hW.size
    obtain ⟨m,hm⟩:∃ m:Nat,(m:Int)=min (n:Int) (max 1 t):=⟨(min (n:Int) (max 1 t)).toNat,by omega⟩
    refine (take_some 0 bk gb 0 n n cur bs tg tp tc u.ts t m a of mo u.fa u.la u.li false gv got W h1' ⟨hn.1,by omega⟩ (by omega) hbs hgb hcur (Nat.le_refl _) h2 (Nat.zero_le _) hgl hpos (by omega) (by omega) ((hW.cell (p:=⟨tg,tp+a % u.ts.length,none⟩) htl).trans q1) (fun e=>by have:=hlow bk h.own;omega) (by omega) q2 hm hd1 hd2 hd3).mono ?_
    rintro e w' ⟨gv',tt,te⟩
    rw [← ht] at tt
    obtain ⟨O',s1,s2⟩:=h.took h3 (by omega) (by omega) tt
    refine ⟨m,O',by omega,fun ho=>?_,s1,s2,te⟩
    have ho:u.ts=[1]:=by simpa [Ou.one] using ho
    rw [ho] at hti
    have:a % [(1:Int)].length=0:=by show a % 1=0;omega
    rw [this] at hti
    simp at hti
    omega
end Go.Proofs.YtljcljipppjnoaaGreatDoor
