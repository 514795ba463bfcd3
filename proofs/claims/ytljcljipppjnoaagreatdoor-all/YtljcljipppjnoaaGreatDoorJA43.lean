import Derived.Test.YtljcljipppjnoaaGreatDoorJA02
import Derived.Test.YtljcljipppjnoaaGreatDoorJA03
import Derived.Deep.CutBlock
import Derived.Deep.RegionLaw
import Derived.Deep.AppendLies
namespace Go.Proofs.YtljcljipppjnoaaGreatDoor
open Go.RowKit
def SnkAt (b:Nat) (tv:Value) (a fa la li of mo:Int) (no:Bool) (gv:Value) (w:World):Prop :=
  w.heap[b]?=some (.cells #[tv,.int .i64 a,.int .i64 fa,.int .i64 la,.int .i64 li,.int .i64 of,.int .i64 mo,.bool no,gv] 109 (0,0))
theorem SnkAt.cells {b:Nat} {tv:Value} {a fa la li of mo:Int} {no:Bool} {gv:Value} {w:World} (h:SnkAt b tv a fa la li of mo no gv w) :
    w.cell? ⟨b,0,none⟩=some tv∧w.cell? ⟨b,1,none⟩=some (.int .i64 a)∧w.cell? ⟨b,2,none⟩=some (.int .i64 fa)∧w.cell? ⟨b,3,none⟩=some (.int .i64 la)∧w.cell? ⟨b,4,none⟩=some (.int .i64 li)∧w.cell? ⟨b,5,none⟩=some (.int .i64 of)∧w.cell? ⟨b,6,none⟩=some (.int .i64 mo)∧w.cell? ⟨b,7,none⟩=some (.bool no)∧w.cell? ⟨b,8,none⟩=some gv:=by
  unfold SnkAt at h
  refine ⟨?_,?_,?_,?_,?_,?_,?_,?_,?_⟩ <;> (rw [Lib.cell_of_heap h];rfl)
theorem SnkAt.frozen {b:Nat} {tv:Value} {a fa la li of mo:Int} {no:Bool} {gv:Value} {w:World} (h:SnkAt b tv a fa la li of mo no gv w) (j:Nat):w.frozen? ⟨b,j,none⟩=false:=Lib.frozen_of_heap h j
theorem SnkAt.put1 {b:Nat} {tv:Value} {a fa la li of mo:Int} {no:Bool} {gv:Value} {w:World} (h:SnkAt b tv a fa la li of mo no gv w) (x:Int):SnkAt b tv x fa la li of mo no gv (w.setCell ⟨b,1,none⟩ (.int .i64 x)):=by
  have:=Joins.block_setCell (i:=1) h (.int .i64 x)
  simpa [SnkAt] using this
theorem SnkAt.put5 {b:Nat} {tv:Value} {a fa la li of mo:Int} {no:Bool} {gv:Value} {w:World} (h:SnkAt b tv a fa la li of mo no gv w) (x:Int):SnkAt b tv a fa la li x mo no gv (w.setCell ⟨b,5,none⟩ (.int .i64 x)):=by
  have:=Joins.block_setCell (i:=5) h (.int .i64 x)
  simpa [SnkAt] using this
theorem SnkAt.put6 {b:Nat} {tv:Value} {a fa la li of mo:Int} {no:Bool} {gv:Value} {w:World} (h:SnkAt b tv a fa la li of mo no gv w) (x:Int):SnkAt b tv a fa la li of x no gv (w.setCell ⟨b,6,none⟩ (.int .i64 x)):=by
  have:=Joins.block_setCell (i:=6) h (.int .i64 x)
  simpa [SnkAt] using this
theorem SnkAt.put7 {b:Nat} {tv:Value} {a fa la li of mo:Int} {no:Bool} {gv:Value} {w:World} (h:SnkAt b tv a fa la li of mo no gv w) (x:Bool):SnkAt b tv a fa la li of mo x gv (w.setCell ⟨b,7,none⟩ (.bool x)):=by
  have:=Joins.block_setCell (i:=7) h (.bool x)
  simpa [SnkAt] using this
theorem SnkAt.put8 {b:Nat} {tv:Value} {a fa la li of mo:Int} {no:Bool} {gv:Value} {w:World} (h:SnkAt b tv a fa la li of mo no gv w) (x:Value):SnkAt b tv a fa la li of mo no x (w.setCell ⟨b,8,none⟩ (x)):=by
  have:=Joins.block_setCell (i:=8) h (x)
  simpa [SnkAt] using this
theorem SnkAt.drew {b:Nat} {tv:Value} {a fa la li of mo:Int} {no:Bool} {gv:Value} {w:World} (h:SnkAt b tv a fa la li of mo no gv w):SnkAt b tv a fa la li of mo no gv w.drew:=h
theorem SnkAt.drewN {b:Nat} {tv:Value} {a fa la li of mo:Int} {no:Bool} {gv:Value} {w:World} (h:SnkAt b tv a fa la li of mo no gv w) (n:Nat):SnkAt b tv a fa la li of mo no gv (w.drewN n):=h
theorem SnkAt.lt {b:Nat} {tv:Value} {a fa la li of mo:Int} {no:Bool} {gv:Value} {w:World} (h:SnkAt b tv a fa la li of mo no gv w):b < w.heap.size:=(Array.getElem?_eq_some_iff.1 h).1
structure KeptO (O:Nat→Prop) (w w':World):Prop where
  os:w'.os=w.os
  tape:w'.tape=w.tape
  output:w'.output=w.output
  size:w.heap.size≤w'.heap.size
  block:∀ k,k < w.heap.size→¬ O k→w'.heap[k]?=w.heap[k]?
theorem KeptO.of_kept {b:Nat} {O:Nat→Prop} {w w':World} (h:Kept b w w') (hb:O b):KeptO O w w' :=
  ⟨h.os,h.tape,h.output,h.size,fun k hk ho=>h.block k hk (fun e=>ho (e ▸ hb))⟩
theorem KeptO.trans {O:Nat→Prop} {u v w:World} (h:KeptO O u v) (k:KeptO O v w):KeptO O u w :=
  ⟨k.os.trans h.os,k.tape.trans h.tape,k.output.trans h.output,Nat.le_trans h.size k.size,fun i hi hb=>(k.block i (Nat.lt_of_lt_of_le hi h.size) hb).trans (h.block i hi hb)⟩
theorem own_kept {b B n:Nat} {e:TypeId} {size:Nat} {v:Value} {xs:List Value} {w w':World} (h:w.ownsRow B e size v n xs) (hk:Kept b w w') (hb:v.ownBlock ≠ some b):w'.ownsRow B e size v n xs:=by
  refine ⟨h.1,?_⟩
  rcases h.2 with h0 | ⟨g,cap,cur,hv,hg,hh,r⟩
  · exact Or.inl h0
  · refine Or.inr ⟨g,cap,cur,hv,hg,?_,r⟩
    rw [hk.block g (Array.getElem?_eq_some_iff.1 hh).1 (fun e=>hb (by rw [hv,← e];rfl))]
    exact hh
theorem byte_at (bs:List UInt8) (j:Nat) (u:Value) (h:(Lib.byteCells bs)[j]?=some u):∃ c,bs[j]?=some c∧u=.int .u8 c.toNat:=by
  simp only [Lib.byteCells,List.getElem?_map,Option.map_eq_some_iff] at h
  obtain ⟨c,hc,rfl⟩:=h
  exact ⟨c,hc,rfl⟩
theorem byte_one (bs:List UInt8):∀ u ∈ Lib.byteCells bs,u.oneCell'=true:=by
  intro u hu
  simp only [Lib.byteCells,List.mem_map] at hu
  obtain ⟨c,_,rfl⟩:=hu
  rfl
theorem Tryz.infoByte:(Tryz.prog.info? 5).map (fun i=>(i.zero,i.size,i.bytes))=some (some (.int .u8 0),1,1):=by kernel_rfl
def TakeO (b gb:Nat) (gv:Value) (k:Nat):Prop:=k=b∨k=gb∨gv.ownBlock=some k
structure TookC (B b gb ob n m:Nat) (cur:Array Value) (bs:List UInt8) (tv:Value) (a a' of mo:Nat) (fa la li:Int) (no:Bool) (gv:Value) (got:List UInt8) (w:World) (gv':Value) (w':World):Prop where
  snk:SnkAt b tv a' fa la li ((of+1:Nat):Int) ((max mo n:Nat):Int) no gv' w'
  own:w'.ownsRow B 5 1 gv' (got.length+m) (Lib.byteCells (got++bs.take m))
  row:gv'.ownBlock=gv.ownBlock∨∃ g,gv'.ownBlock=some g∧w.heap.size≤g
  kept:KeptO (TakeO b gb gv) w w'
  buf:∃ cur',w'.heap[gb]?=some (.cells cur' 5 (0,0))∧cur'.size=cur.size∧∀ j,j < ob∨ob+n≤j→cur'[j]?=cur[j]?
theorem TookC.drewN {B b gb ob n m:Nat} {cur:Array Value} {bs:List UInt8} {tv:Value} {a a' of mo:Nat} {fa la li:Int} {no:Bool} {gv:Value} {got:List UInt8} {w:World} {gv':Value} {w':World} (h:TookC B b gb ob n m cur bs tv a a' of mo fa la li no gv got w gv' w') (k:Nat):TookC B b gb ob n m cur bs tv a a' of mo fa la li no gv got w gv' (w'.drewN k) :=
  ⟨h.snk,h.own,h.row,⟨h.kept.os,h.kept.tape,h.kept.output,h.kept.size,h.kept.block⟩,h.buf⟩
theorem TookC.alloc {B b gb ob n m:Nat} {cur:Array Value} {bs:List UInt8} {tv:Value} {a a' of mo:Nat} {fa la li:Int} {no:Bool} {gv:Value} {got:List UInt8} {w:World} {gv':Value} {w':World} (h:TookC B b gb ob n m cur bs tv a a' of mo fa la li no gv got w gv' w') (o:Obj):TookC B b gb ob n m cur bs tv a a' of mo fa la li no gv got w gv' (w'.alloc o):=by
  obtain ⟨cur',h1,h2,h3⟩:=h.buf
  refine ⟨(Below.heap_alloc w' o b h.snk.lt).trans h.snk,h.own.alloc _,h.row,⟨h.kept.os,h.kept.tape,h.kept.output,by have:=h.kept.size;simp;omega,fun k hk ho=>(Below.heap_alloc w' o k (Nat.lt_of_lt_of_le hk h.kept.size)).trans (h.kept.block k hk ho)⟩,cur',(Below.heap_alloc w' o gb (Array.getElem?_eq_some_iff.1 h1).1).trans h1,h2,h3⟩
def TookE (of m:Nat) (fa la li:Int) (w:World) (e:Ending) (w':World):Prop :=
  (((of+1:Nat):Int)=la∧e=.returned (.tuple #[.int .i64 li,.nilIface])) ∨
  (((of+1:Nat):Int) ≠ la∧((of+1:Nat):Int)=fa∧∃ p,e=.returned (.tuple #[.int .i64 m,.iface 133 (.pointer (some ⟨p,0,none⟩))])∧w'.heap[p]?=some (.cells #[.int .i64 ((of+1:Nat):Int)] 306 (0,0))∧w.heap.size≤p) ∨
  (((of+1:Nat):Int) ≠ la∧((of+1:Nat):Int) ≠ fa∧e=.returned (.tuple #[.int .i64 m,.nilIface]))
set_option maxRecDepth 100000 in
set_option maxHeartbeats 4000000 in
theorem take_all (B b gb ob n cap:Nat) (cur:Array Value) (bs:List UInt8) (ta:Option Addr) (tc:Nat) (a of mo:Nat) (fa la li:Int) (no:Bool) (gv:Value) (got:List UInt8) (w:World)
    (h:SnkAt b (.slice ta 0 tc) a fa la li of mo no gv w) (hn:1≤n∧n≤1024) (hof:of≤1099511627776)
    (hbs:bs.length=n) (hgb:w.heap[gb]?=some (.cells cur 5 (0,0))) (hcur:∀ (j:Nat) (c:UInt8),bs[j]?=some c→cur[ob+j]?=some (.int .u8 c.toNat)) (hcap:n≤cap)
    (hown:w.ownsRow B 5 1 gv got.length (Lib.byteCells got)) (hB:B≤w.heap.size) (hgl:got.length≤1099511627776) (hd1:gb ≠ b) (hd2:gv.ownBlock ≠ some b) (hd3:gv.ownBlock ≠ some gb) :
    Calls Tryz.prog 260 #[.pointer (some ⟨b,0,none⟩),.slice (some ⟨gb,ob,none⟩) n cap] w fun e w'=>∃ gv',TookC B b gb ob n n cur bs (.slice ta 0 tc) a a of mo fa la li no gv got w gv' w'∧TookE of n fa la li w e w':=by
  obtain ⟨i0,hi,hz0,hz1,hz2⟩:=info_parts Tryz.infoByte
  have H:Hid (SnkAt b (.slice ta 0 tc) a fa la li of mo no gv w):=h
  obtain ⟨c0,c1,c2,c3,c4,c5,c6,c7,c8⟩:=h.cells
  have z5:=h.frozen 5
  have z6:=h.frozen 6
  clear h
  go_enter Tryz.func260,Tryz.ntmps260
  go_upto_region 2 with fail
  go_cut [4] (fun v4 wx=>v4=.int .i64 0∧SnkAt b (.slice ta 0 tc) a fa la li (of+1:Nat) (max mo n:Nat) no gv wx∧Kept b w wx)
  case first =>
    go_wp2
    all_goals
      go_meet
      refine ⟨rfl,?_,((Kept.refl b w).setCell 5 _).setCell 6 _⟩
      first
      | (have:=(H.out.put5 ((of+1:Nat):Int)).put6 ((max mo n:Nat):Int)
         rw [show ((max mo n:Nat):Int)=mo by omega] at this ⊢
         exact this)
      | (have:=(H.out.put5 ((of+1:Nat):Int)).put6 ((max mo n:Nat):Int)
         rw [show ((max mo n:Nat):Int)=n by omega] at this ⊢
         exact this)
  case rest =>
    clear H c0 c1 c2 c3 c4 c5 c6 c7 c8 z5 z6
    obtain ⟨rfl,h,hk⟩:=hcut
    obtain ⟨c0,c1,c2,c3,c4,c5,c6,c7,c8⟩:=h.cells
    have z7:=h.frozen 7
    have H:Hid (SnkAt b (.slice ta 0 tc) a fa la li ((of+1:Nat):Int) ((max mo n:Nat):Int) no gv wc):=h
    have HK:Hid (Kept b w wc):=hk
    have hn0:((n:Int) == 0)=false:=by rw [beq_eq_false_iff_ne];omega
    clear h hk
    go_upto_region 3 with fail
    go_cut [4] (fun v4 wx=>v4=.int .i64 0∧SnkAt b (.slice ta 0 tc) a fa la li (of+1:Nat) (max mo n:Nat) no gv wx∧Kept b w wx)
    case first =>
      cases no
      all_goals
        go_wp2
        go_meet
        refine ⟨rfl,?_,HK.out.setCell 7 _⟩
        first | exact SnkAt.put7 (no:=true) H.out true | exact SnkAt.put7 (no:=false) H.out false
    case rest =>
      clear H HK c0 c1 c2 c3 c4 c5 c6 c7 c8 z7
      obtain ⟨rfl,h,hk⟩:=hcut
      obtain ⟨c0,c1,c2,c3,c4,c5,c6,c7,c8⟩:=h.cells
      have z8:=h.frozen 8
      have H:Hid (SnkAt b (.slice ta 0 tc) a fa la li ((of+1:Nat):Int) ((max mo n:Nat):Int) no gv wc):=h
      have HK:Hid (Kept b w wc):=hk
      have hlb:=h.lt
      have hglt:gb < w.heap.size:=(Array.getElem?_eq_some_iff.1 hgb).1
      have hsz:=hk.size
      have hownc:=own_kept hown hk hd2
      have hgc:wc.heap[gb]?=some (.cells cur 5 (0,0)):=(hk.block gb hglt hd1).trans hgb
      have hnews:∀ (j:Nat) (u:Value),(Lib.byteCells bs)[j]?=some u→wc.cell? ((⟨gb,ob,none⟩:Addr).add j)=some u:=by
        intro j u hu
        obtain ⟨c,hc,rfl⟩:=byte_at bs j u hu
        rw [Addr.add_lit]
        exact row_cell hgc (hcur j c hc)
      have hbl:(Lib.byteCells bs).length=n * 1:=by rw [Lib.byteCells_length,hbs,Nat.mul_one]
      have zn:(n:Int)≤(cap:Int):=by omega
      have HNW:Hid _:=hnews
      have HGC:Hid (wc.heap[gb]?=some (.cells cur 5 (0,0))):=hgc
      have HCS:Hid (ob+n≤cur.size):=by
        obtain ⟨c,hc⟩:∃ c,bs[n - 1]?=some c:=⟨bs[n - 1],List.getElem?_eq_getElem (by omega)⟩
        have:=(Array.getElem?_eq_some_iff.1 (hcur (n - 1) c hc)).1
        show _≤_
        omega
      have HOW:Hid (wc.ownsRow B 5 1 gv got.length (Lib.byteCells got)):=hownc
      clear h hk hown hgb hcur hnews hownc hgc
      go_upto_region 8 with fail
      go_region_law (refine step_append_lies _ rfl _ _ 107 rfl B 5 i0 (.int .u8 0) 1 1 Tryz.underlying107 hi hz0 hz1 hz2 rfl (by decide) _ got.length (Lib.byteCells got) rfl HOW.out ⟨gb,ob,none⟩ n cap (Lib.byteCells bs) rfl hbl HNW.out (byte_one bs) (by omega) (by unfold maxLen;omega) (by omega) (by show B≤wc.heap.size;omega) wc.heap.size rfl ?_;intro g' cap' w1 own1 grow1 at1 lt1;have h1:SnkAt b (.slice ta 0 tc) a fa la li ((of+1:Nat):Int) ((max mo n:Nat):Int) no gv w1:=(grow1.block b hlb (fun e=>hd2 e.symm)).trans H.out;have k8:=h1.cells.2.2.2.2.2.2.2.2;have f8:=h1.frozen 8)
      have hg1:g' ≠ gb:=fun e=>by
        rcases at1 with h | h
        · exact hd3 (e ▸ h)
        · omega
      have hg2:g' ≠ b:=fun e=>by
        rcases at1 with h | h
        · exact hd2 (e ▸ h)
        · omega
      have hcs:ob+n≤cur.size:=HCS.out
      have HI:Hid (TookC B b gb ob n n cur bs (.slice ta 0 tc) a a of mo fa la li no gv got w (.slice (some ⟨g',0,none⟩) (got.length+n) cap') (w1.setCell ⟨b,8,none⟩ (.slice (some ⟨g',0,none⟩) (got.length+n) cap'))):=by
        have gs:=grow1.size
        have hsz':wc.heap.size≤w1.heap.size:=gs
        refine ⟨h1.put8 _,?_,?_,?_,cur,?_,rfl,fun _ _=>rfl⟩
        · have ht:bs.take n=bs:=List.take_of_length_le (by omega)
          rw [ht,Lib.byteCells_append]
          exact own_kept own1 ((Kept.refl b w1).setCell 8 _) (by intro h;injection h with h;exact hg2 h)
        · rcases at1 with h | h
          · exact Or.inl h.symm
          · exact Or.inr ⟨g',rfl,by omega⟩
        · have k1:KeptO (TakeO b gb gv) w wc:=KeptO.of_kept HK.out (Or.inl rfl)
          refine (k1.trans ⟨grow1.os,grow1.tape,grow1.output,hsz',fun k hk ho=>grow1.block k hk (fun e=>ho (Or.inr (Or.inr e.symm)))⟩).trans (KeptO.of_kept ((Kept.refl b w1).setCell 8 _) (Or.inl rfl))
        · rw [Below.heap_setCell _ _ _ _ hd1,grow1.block gb (by show gb < wc.heap.size;omega) (fun e=>hd3 e.symm)]
          exact HGC.out
      clear k8 f8 h1 own1 grow1 lt1
      go_wp2
      go_loopw [84] (fun v84 wr=>∃ k:Nat,k≤n∧v84=.int .i64 k∧Hid (TookC B b gb ob n n cur bs (.slice ta 0 tc) a a of mo fa la li no gv got w (.slice (some ⟨g',0,none⟩) (got.length+n) cap') wr)) (fun v84 _=>n - (intOf v84).toNat)
      case atStart=>exact ⟨0,Nat.zero_le _,rfl,HI⟩
      case round =>
        clear HI
        obtain ⟨k,hk,rfl,HI⟩:=hrel
        by_cases hlt:k < n
        · obtain ⟨cur2,hb2,hs2,hout⟩:=HI.out.buf
          have hx:cur2[ob+k]?=some cur2[ob+k]:=Array.getElem?_eq_getElem (by omega)
          have kx:=row_cell hb2 hx
          have fx:=row_free (i:=ob+k) hb2
          have HI2:Hid (TookC B b gb ob n n cur bs (.slice ta 0 tc) a a of mo fa la li no gv got w (.slice (some ⟨g',0,none⟩) (got.length+n) cap') (wr.setCell ⟨gb,ob+k,none⟩ (.int .u8 33))):=by
            have t:=HI.out
            have kk:Kept gb wr (wr.setCell ⟨gb,ob+k,none⟩ (.int .u8 33)):=(Kept.refl gb wr).setCell (ob+k) _
            refine ⟨(kk.block b t.snk.lt hd1.symm).trans t.snk,own_kept t.own kk (by intro h;injection h with h;exact hg1 h),t.row,t.kept.trans (KeptO.of_kept kk (Or.inr (Or.inl rfl))),_,set_row hb2,by simpa using hs2,fun j hj=>?_⟩
            rw [Array.getElem?_setIfInBounds_ne (by omega)]
            exact hout j hj
          clear hout HI
          go_wp2
          go_roundw
          case rel=>exact ⟨k+1,by omega,by go_num,HI2⟩
          case measure=>simp [intOf];omega
        · have hs:=HI.out.snk
          obtain ⟨e0,e1,e2,e3,e4,e5,e6,e7,e8⟩:=hs.cells
          have hls:=HI.out.kept.size
          have hcast:((of+1:Nat):Int)=(of:Int)+1:=by omega
          by_cases hla:((of+1:Nat):Int)=la
          · have gla:(((of+1:Nat):Int) == la)=true:=by rw [beq_iff_eq];exact hla
            go_wp2
            go_quiet (fail)
            go_wp2
            go_ret2
            exact ⟨_,HI.out.drewN _,Or.inl ⟨hla,rfl⟩⟩
          · have gla:(((of+1:Nat):Int) == la)=false:=by rw [beq_eq_false_iff_ne];exact hla
            by_cases hfa:((of+1:Nat):Int)=fa
            · have gfa:(((of+1:Nat):Int) == fa)=true:=by rw [beq_iff_eq];exact hfa
              go_wp2
              go_quiet (fail)
              go_wp2
              go_quiet (fail)
              go_wp2
              go_region
              go_wp2
              go_ret2
              refine ⟨_,TookC.alloc (HI.out.drewN _) _,Or.inr (Or.inl ⟨hla,hfa,wr.heap.size,rfl,?_,hls⟩)⟩
              exact heap_new _ _ (by simp)
            · have gfa:(((of+1:Nat):Int) == fa)=false:=by rw [beq_eq_false_iff_ne];exact hfa
              go_wp2
              go_quiet (fail)
              go_wp2
              go_quiet (fail)
              go_wp2
              go_ret2
              exact ⟨_,(HI.out.drewN _).drewN _,Or.inr (Or.inr ⟨hla,hfa,rfl⟩)⟩
end Go.Proofs.YtljcljipppjnoaaGreatDoor
namespace Go.Proofs.YtljcljipppjnoaaGreatDoor
open Go.RowKit
set_option maxRecDepth 100000 in
set_option maxHeartbeats 4000000 in
theorem take_some (B b gb ob n cap:Nat) (cur:Array Value) (bs:List UInt8) (tg tp tc:Nat) (ts:List Int) (t:Int) (m:Nat) (a of mo:Nat) (fa la li:Int) (no:Bool) (gv:Value) (got:List UInt8) (w:World)
    (h:SnkAt b (.slice (some ⟨tg,tp,none⟩) ts.length tc) a fa la li of mo no gv w) (hn:1≤n∧n≤1024) (hof:of≤1099511627776)
    (hbs:bs.length=n) (hgb:w.heap[gb]?=some (.cells cur 5 (0,0))) (hcur:∀ (j:Nat) (c:UInt8),bs[j]?=some c→cur[ob+j]?=some (.int .u8 c.toNat)) (hcap:n≤cap)
    (hown:w.ownsRow B 5 1 gv got.length (Lib.byteCells got)) (hB:B≤w.heap.size) (hgl:got.length≤1099511627776) (hts:0 < ts.length) (htl:ts.length≤1048576) (ha:a≤1099511627776) (htc:w.cell? ⟨tg,tp+a % ts.length,none⟩=some (.int .i64 t)) (htb:tg ≠ b) (htlt:tg < w.heap.size) (htt:-9223372036854775808≤t∧t≤9223372036854775807) (hm:(m:Int)=min (n:Int) (max 1 t)) (hd1:gb ≠ b) (hd2:gv.ownBlock ≠ some b) (hd3:gv.ownBlock ≠ some gb) :
    Calls Tryz.prog 260 #[.pointer (some ⟨b,0,none⟩),.slice (some ⟨gb,ob,none⟩) n cap] w fun e w'=>∃ gv',TookC B b gb ob n m cur bs (.slice (some ⟨tg,tp,none⟩) ts.length tc) a (a+1) of mo fa la li no gv got w gv' w'∧TookE of m fa la li w e w':=by
  obtain ⟨i0,hi,hz0,hz1,hz2⟩:=info_parts Tryz.infoByte
  have hm1:1≤m∧m≤n:=by omega
  have HM:Hid ((m:Int)=min (n:Int) (max 1 t)):=hm
  clear hm
  have H:Hid (SnkAt b (.slice (some ⟨tg,tp,none⟩) ts.length tc) a fa la li of mo no gv w):=h
  obtain ⟨c0,c1,c2,c3,c4,c5,c6,c7,c8⟩:=h.cells
  have z5:=h.frozen 5
  have z6:=h.frozen 6
  clear h
  go_enter Tryz.func260,Tryz.ntmps260
  go_upto_region 2 with fail
  go_cut [4] (fun v4 wx=>v4=.int .i64 0∧SnkAt b (.slice (some ⟨tg,tp,none⟩) ts.length tc) a fa la li (of+1:Nat) (max mo n:Nat) no gv wx∧Kept b w wx)
  case first =>
    go_wp2
    all_goals
      go_meet
      refine ⟨rfl,?_,((Kept.refl b w).setCell 5 _).setCell 6 _⟩
      first
      | (have:=(H.out.put5 ((of+1:Nat):Int)).put6 ((max mo n:Nat):Int)
         rw [show ((max mo n:Nat):Int)=mo by omega] at this ⊢
         exact this)
      | (have:=(H.out.put5 ((of+1:Nat):Int)).put6 ((max mo n:Nat):Int)
         rw [show ((max mo n:Nat):Int)=n by omega] at this ⊢
         exact this)
  case rest =>
    clear H c0 c1 c2 c3 c4 c5 c6 c7 c8 z5 z6
    obtain ⟨rfl,h,hk⟩:=hcut
    obtain ⟨c0,c1,c2,c3,c4,c5,c6,c7,c8⟩:=h.cells
    have z7:=h.frozen 7
    have H:Hid (SnkAt b (.slice (some ⟨tg,tp,none⟩) ts.length tc) a fa la li ((of+1:Nat):Int) ((max mo n:Nat):Int) no gv wc):=h
    have HK:Hid (Kept b w wc):=hk
    have hn0:((n:Int) == 0)=false:=by rw [beq_eq_false_iff_ne];omega
    clear h hk
    go_upto_region 3 with fail
    go_cut [4] (fun v4 wx=>v4=.int .i64 0∧SnkAt b (.slice (some ⟨tg,tp,none⟩) ts.length tc) a fa la li (of+1:Nat) (max mo n:Nat) no gv wx∧Kept b w wx)
    case first =>
      cases no
      all_goals
        go_wp2
        go_meet
        refine ⟨rfl,?_,HK.out.setCell 7 _⟩
        first | exact SnkAt.put7 (no:=true) H.out true | exact SnkAt.put7 (no:=false) H.out false
    case rest =>
      clear H HK c0 c1 c2 c3 c4 c5 c6 c7 c8 z7
      obtain ⟨rfl,h,hk⟩:=hcut
      obtain ⟨c0,c1,c2,c3,c4,c5,c6,c7,c8⟩:=h.cells
      have z8:=h.frozen 8
      have H:Hid (SnkAt b (.slice (some ⟨tg,tp,none⟩) ts.length tc) a fa la li ((of+1:Nat):Int) ((max mo n:Nat):Int) no gv wc):=h
      have HK:Hid (Kept b w wc):=hk
      have hct:wc.cell? ⟨tg,tp+a % ts.length,none⟩=some (.int .i64 t):=by
        rw [← htc]
        exact World.cell?_of_block (hk.block tg htlt htb)
      have hml:=Nat.mod_lt a hts
      have hmod:(a:Int).tmod (ts.length:Int)=((a % ts.length:Nat):Int):=by rw [Int.tmod_eq_emod_of_nonneg (by omega)];omega
      have hpos:decide ((0:Int) < (ts.length:Int))=true:=by simp;omega
      have hnz:((ts.length:Int) == 0)=false:=by rw [beq_eq_false_iff_ne];omega
      clear h hk
      go_upto_region 6 with fail
      go_cut [6] (fun v6 wx=>v6=.int .i64 (m:Int)∧SnkAt b (.slice (some ⟨tg,tp,none⟩) ts.length tc) a fa la li ((of+1:Nat):Int) ((max mo n:Nat):Int) no gv wx∧Kept b w wx)
      case first =>
        go_quiet (fail)
        go_wp2_with fail
        all_goals
          go_meet
          refine ⟨congrArg (Value.int IntKind.i64) ?_,H.out.drewN _,HK.out.drewN _⟩
          have:=HM.out
          omega
      case rest =>
        clear H HK c0 c1 c2 c3 c4 c5 c6 c7 c8 z8 hct
        obtain ⟨rfl,h,hk⟩:=hcut
        obtain ⟨c0,c1,c2,c3,c4,c5,c6,c7,c8⟩:=h.cells
        have z1:=h.frozen 1
        have H:Hid (SnkAt b (.slice (some ⟨tg,tp,none⟩) ts.length tc) a fa la li ((of+1:Nat):Int) ((max mo n:Nat):Int) no gv wc):=h
        have HK:Hid (Kept b w wc):=hk
        clear h hk
        go_upto_region 7 with fail
        go_cut [4] (fun v4 wx=>v4=.int .i64 0∧SnkAt b (.slice (some ⟨tg,tp,none⟩) ts.length tc) ((a+1:Nat):Int) fa la li ((of+1:Nat):Int) ((max mo n:Nat):Int) no gv wx∧Kept b w wx)
        case first =>
          go_wp2
          go_meet
          exact ⟨rfl,H.out.put1 _,HK.out.setCell 1 _⟩
        case rest =>
          clear H HK c0 c1 c2 c3 c4 c5 c6 c7 c8 z1
          obtain ⟨rfl,h,hk⟩:=hcut
          obtain ⟨c0,c1,c2,c3,c4,c5,c6,c7,c8⟩:=h.cells
          have z8:=h.frozen 8
          have H:Hid (SnkAt b (.slice (some ⟨tg,tp,none⟩) ts.length tc) ((a+1:Nat):Int) fa la li ((of+1:Nat):Int) ((max mo n:Nat):Int) no gv wc):=h
          have HK:Hid (Kept b w wc):=hk
          have hlb:=h.lt
          have hglt:gb < w.heap.size:=(Array.getElem?_eq_some_iff.1 hgb).1
          have hsz:=hk.size
          have hownc:=own_kept hown hk hd2
          have hgc:wc.heap[gb]?=some (.cells cur 5 (0,0)):=(hk.block gb hglt hd1).trans hgb
          have hnews:∀ (j:Nat) (u:Value),(Lib.byteCells (bs.take m))[j]?=some u→wc.cell? ((⟨gb,ob,none⟩:Addr).add j)=some u:=by
            intro j u hu
            obtain ⟨c,hc,rfl⟩:=byte_at (bs.take m) j u hu
            rw [Addr.add_lit]
            exact row_cell hgc (hcur j c (by rw [List.getElem?_take] at hc;split at hc;exact hc;cases hc))
          have hbl:(Lib.byteCells (bs.take m)).length=m * 1:=by rw [Lib.byteCells_length,List.length_take,hbs,Nat.mul_one];omega
          have zn:(m:Int)≤(cap:Int):=by omega
          have zn2:(m:Int)≤(n:Int):=by omega
          have HNW:Hid _:=hnews
          have HGC:Hid (wc.heap[gb]?=some (.cells cur 5 (0,0))):=hgc
          have HCS:Hid (ob+n≤cur.size):=by
            obtain ⟨c,hc⟩:∃ c,bs[n - 1]?=some c:=⟨bs[n - 1],List.getElem?_eq_getElem (by omega)⟩
            have:=(Array.getElem?_eq_some_iff.1 (hcur (n - 1) c hc)).1
            show _≤_
            omega
          have HOW:Hid (wc.ownsRow B 5 1 gv got.length (Lib.byteCells got)):=hownc
          clear h hk hown hgb hcur hnews hownc hgc
          go_upto_region 8 with fail
          go_region_law (refine step_append_lies _ rfl _ _ 107 rfl B 5 i0 (.int .u8 0) 1 1 Tryz.underlying107 hi hz0 hz1 hz2 rfl (by decide) _ got.length (Lib.byteCells got) rfl HOW.out ⟨gb,ob,none⟩ m cap (Lib.byteCells (bs.take m)) rfl hbl HNW.out (byte_one (bs.take m)) (by omega) (by unfold maxLen;omega) (by omega) (by show B≤wc.heap.size;omega) wc.heap.size rfl ?_;intro g' cap' w1 own1 grow1 at1 lt1;have h1:SnkAt b (.slice (some ⟨tg,tp,none⟩) ts.length tc) ((a+1:Nat):Int) fa la li ((of+1:Nat):Int) ((max mo n:Nat):Int) no gv w1:=(grow1.block b hlb (fun e=>hd2 e.symm)).trans H.out;have k8:=h1.cells.2.2.2.2.2.2.2.2;have f8:=h1.frozen 8)
          have hg1:g' ≠ gb:=fun e=>by
            rcases at1 with h | h
            · exact hd3 (e ▸ h)
            · omega
          have hg2:g' ≠ b:=fun e=>by
            rcases at1 with h | h
            · exact hd2 (e ▸ h)
            · omega
          have hcs:ob+n≤cur.size:=HCS.out
          have HI:Hid (TookC B b gb ob n m cur bs (.slice (some ⟨tg,tp,none⟩) ts.length tc) a (a+1) of mo fa la li no gv got w (.slice (some ⟨g',0,none⟩) (got.length+m) cap') (w1.setCell ⟨b,8,none⟩ (.slice (some ⟨g',0,none⟩) (got.length+m) cap'))):=by
            have gs:=grow1.size
            have hsz':wc.heap.size≤w1.heap.size:=gs
            refine ⟨h1.put8 _,?_,?_,?_,cur,?_,rfl,fun _ _=>rfl⟩
            · rw [Lib.byteCells_append]
              exact own_kept own1 ((Kept.refl b w1).setCell 8 _) (by intro h;injection h with h;exact hg2 h)
            · rcases at1 with h | h
              · exact Or.inl h.symm
              · exact Or.inr ⟨g',rfl,by omega⟩
            · have k1:KeptO (TakeO b gb gv) w wc:=KeptO.of_kept HK.out (Or.inl rfl)
              refine (k1.trans ⟨grow1.os,grow1.tape,grow1.output,hsz',fun k hk ho=>grow1.block k hk (fun e=>ho (Or.inr (Or.inr e.symm)))⟩).trans (KeptO.of_kept ((Kept.refl b w1).setCell 8 _) (Or.inl rfl))
            · rw [Below.heap_setCell _ _ _ _ hd1,grow1.block gb (by show gb < wc.heap.size;omega) (fun e=>hd3 e.symm)]
              exact HGC.out
          clear k8 f8 h1 own1 grow1 lt1
          go_wp2
          go_loopw [84] (fun v84 wr=>∃ k:Nat,k≤n∧v84=.int .i64 k∧Hid (TookC B b gb ob n m cur bs (.slice (some ⟨tg,tp,none⟩) ts.length tc) a (a+1) of mo fa la li no gv got w (.slice (some ⟨g',0,none⟩) (got.length+m) cap') wr)) (fun v84 _=>n - (intOf v84).toNat)
          case atStart=>exact ⟨0,Nat.zero_le _,rfl,HI⟩
          case round =>
            clear HI
            obtain ⟨k,hk,rfl,HI⟩:=hrel
            by_cases hlt:k < n
            · obtain ⟨cur2,hb2,hs2,hout⟩:=HI.out.buf
              have hx:cur2[ob+k]?=some cur2[ob+k]:=Array.getElem?_eq_getElem (by omega)
              have kx:=row_cell hb2 hx
              have fx:=row_free (i:=ob+k) hb2
              have HI2:Hid (TookC B b gb ob n m cur bs (.slice (some ⟨tg,tp,none⟩) ts.length tc) a (a+1) of mo fa la li no gv got w (.slice (some ⟨g',0,none⟩) (got.length+m) cap') (wr.setCell ⟨gb,ob+k,none⟩ (.int .u8 33))):=by
                have t:=HI.out
                have kk:Kept gb wr (wr.setCell ⟨gb,ob+k,none⟩ (.int .u8 33)):=(Kept.refl gb wr).setCell (ob+k) _
                refine ⟨(kk.block b t.snk.lt hd1.symm).trans t.snk,own_kept t.own kk (by intro h;injection h with h;exact hg1 h),t.row,t.kept.trans (KeptO.of_kept kk (Or.inr (Or.inl rfl))),_,set_row hb2,by simpa using hs2,fun j hj=>?_⟩
                rw [Array.getElem?_setIfInBounds_ne (by omega)]
                exact hout j hj
              clear hout HI
              go_wp2
              go_roundw
              case rel=>exact ⟨k+1,by omega,by go_num,HI2⟩
              case measure=>simp [intOf];omega
            · have hs:=HI.out.snk
              obtain ⟨e0,e1,e2,e3,e4,e5,e6,e7,e8⟩:=hs.cells
              have hls:=HI.out.kept.size
              have hcast:((of+1:Nat):Int)=(of:Int)+1:=by omega
              by_cases hla:((of+1:Nat):Int)=la
              · have gla:(((of+1:Nat):Int) == la)=true:=by rw [beq_iff_eq];exact hla
                go_wp2
                go_quiet (fail)
                go_wp2
                go_ret2
                exact ⟨_,HI.out.drewN _,Or.inl ⟨hla,rfl⟩⟩
              · have gla:(((of+1:Nat):Int) == la)=false:=by rw [beq_eq_false_iff_ne];exact hla
                by_cases hfa:((of+1:Nat):Int)=fa
                · have gfa:(((of+1:Nat):Int) == fa)=true:=by rw [beq_iff_eq];exact hfa
                  go_wp2
                  go_quiet (fail)
                  go_wp2
                  go_quiet (fail)
                  go_wp2
                  go_region
                  go_wp2
                  go_ret2
                  refine ⟨_,TookC.alloc (HI.out.drewN _) _,Or.inr (Or.inl ⟨hla,hfa,wr.heap.size,rfl,?_,hls⟩)⟩
                  exact heap_new _ _ (by simp)
                · have gfa:(((of+1:Nat):Int) == fa)=false:=by rw [beq_eq_false_iff_ne];exact hfa
                  go_wp2
                  go_quiet (fail)
                  go_wp2
                  go_quiet (fail)
                  go_wp2
                  go_ret2
                  exact ⟨_,(HI.out.drewN _).drewN _,Or.inr (Or.inr ⟨hla,hfa,rfl⟩)⟩
end Go.Proofs.YtljcljipppjnoaaGreatDoor
namespace Go.Proofs.YtljcljipppjnoaaGreatDoor
open Go.RowKit
theorem catchT_idle (p q:Addr) (w:World) :
    CallsD Tryz.prog 166 #[.pointer (some p),.pointer (some q)] .returning w fun e u' w'=>e=.returned (.tuple #[])∧u'=.returning∧w'=w:=by
  refine callsD_of_wpS Tryz.func166 rfl fun c₀ cs hu=>?_
  apply wpS_seq
  apply wpS_region
  simp [wpOpsS,go_sem,recoverD,hu,Tryz.ntmps166,Exit.thenS]
  refine wpS_cond (t:=false) (by simp [Act.eval,Array.replicate]) ?_
  simp only [Bool.false_eq_true,if_false]
  refine wpS_of_wp (wp_skip ?_)
  cases c₀
  simp_all [bodyPostS,results,Tryz.results166]
def offered (w:World):World:=(w.alloc (.cells #[.int .i64 0] 3)).alloc (.cells #[.nilIface] 98)
theorem offered_size (w:World):(offered w).heap.size=w.heap.size+2:=by simp [offered]
theorem offered0 (w:World):(offered w).heap[w.heap.size]?=some (.cells #[.int .i64 0] 3 (0,0)):=by
  unfold offered
  rw [Below.heap_alloc _ _ _ (by simp)]
  exact heap_new _ _ rfl
theorem offered1 (w:World):(offered w).heap[w.heap.size+1]?=some (.cells #[.nilIface] 98 (0,0)):=by
  unfold offered
  exact heap_new _ _ (by simp)
theorem offered_below (w:World):Below w.heap.size w (offered w):=((Below.refl _ w).alloc (Nat.le_refl _) _).alloc (by simp) _
def TookBy (R:Int→Value→World→Prop) (w:World) (e:Ending) (w':World):Prop :=
  ∃ (n:Int) (er:Value) (w1:World),e=.returned (.tuple #[.int .i64 n,er])∧(er=.nilIface∨∃ u x,er=.iface u x)∧R n er w1∧(∀ k,k ≠ w.heap.size→k ≠ w.heap.size+1→w'.heap[k]?=w1.heap[k]?)∧w'.heap.size=w1.heap.size∧w'.os=w1.os∧w'.tape=w1.tape∧w'.output=w1.output
set_option maxHeartbeats 1000000 in
theorem take_walk (bk:Nat) (a:Option Addr) (len cap:Nat) (R:Int→Value→World→Prop) (w:World)
    (hR:Calls Tryz.prog 260 #[.pointer (some ⟨bk,0,none⟩),.slice a len cap] (offered w) fun e w'=>∃ n er,e=.returned (.tuple #[.int .i64 n,er])∧(er=.nilIface∨∃ u x,er=.iface u x)∧R n er w'∧w'.heap[w.heap.size]?=some (.cells #[.int .i64 0] 3 (0,0))∧w'.heap[w.heap.size+1]?=some (.cells #[.nilIface] 98 (0,0))) :
    Calls Tryz.prog 135 #[.iface 106 (.pointer (some ⟨bk,0,none⟩)),.slice a len cap] w (TookBy R w):=by
  have hmf:∀ (fn:Fn) (first cap:Array Value) (w:World),(Instr.makeFunc fn first cap).run Tryz.prog w=.ok (.func fn first cap) w:=fun _ _ _ _=>rfl
  unfold offered at hR
  go_enter_defers Tryz.func135,Tryz.ntmps135
  go_wp2_with fail
  refine hR.mono ?_
  rintro e w1 ⟨n,er,rfl,hie,hr,n0,n1⟩
  have x0:w1.cell? ⟨w.heap.size,0,none⟩=some (.int .i64 0):=by rw [Lib.cell_of_heap n0];rfl
  have x1:w1.cell? ⟨w.heap.size+1,0,none⟩=some .nilIface:=by rw [Lib.cell_of_heap n1];rfl
  have y0:=Lib.frozen_of_heap n0 0
  have y1:=Lib.frozen_of_heap n1 0
  have HK:Hid (R n er w1):=hr
  clear n0 n1 hr hR
  rcases hie with rfl | ⟨u,x,rfl⟩
  all_goals
    go_wp2
    refine leaves_cons (f:=166) (args:=#[.pointer (some ⟨w.heap.size,0,none⟩),.pointer (some ⟨w.heap.size+1,0,none⟩)]) (by simp) (by simp [go_sem]) ?_
    refine (catchT_idle _ _ _).mono ?_
    rintro e u' w'' ⟨rfl,rfl,rfl⟩
    simp [Leaves,settle,results,Tryz.results135,go_sem,x0,x1]
    refine ⟨n,_,w1,rfl,by simp,HK.out,fun k h1 h2=>?_,by simp,rfl,rfl,rfl⟩
    rw [Below.heap_setCell _ _ _ k h2,Below.heap_setCell _ _ _ k h1]
theorem take_none (a:Option Addr) (len cap:Nat) (w:World) :
    Calls Tryz.prog 135 #[.nilIface,.slice a len cap] w fun e w'=>e=.returned (.tuple #[.int .i64 len,.nilIface])∧Below w.heap.size w w':=by
  go_enter_defers Tryz.func135,Tryz.ntmps135
  go_wp2_with fail
  simp [bodyPostD,Leaves,results,Tryz.results135,go_sem]
  exact ((Below.refl _ w).alloc (Nat.le_refl _) _).alloc (by simp) _
end Go.Proofs.YtljcljipppjnoaaGreatDoor
