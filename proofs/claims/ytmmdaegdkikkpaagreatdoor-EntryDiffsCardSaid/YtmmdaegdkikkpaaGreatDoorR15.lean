/-
  Texts of the schema layer and of those beneath it, joined: SchBox, SchAln, SchPar, SchKl, SchFew, SchSml, SchFit, SchVld, SchLgt, SchAlv, SchLaw, SchEnt, EntSet, EntL. Conditions stand at each contract.
-/
import Derived.Deep.DeepHandedRow
import Derived.Lay
import Derived.Shelf.Vars
import Derived.Stop.LaidErr
import Derived.Test.YtmmdaegdkikkpaaGreatDoorCards
import Derived.Test.YtmmdaegdkikkpaaGreatDoorTie
import Derived.Test.YtmmdaegdkikkpaaGreatDoorR11
import Derived.Test.YtmmdaegdkikkpaaGreatDoorR14
set_option linter.unusedVariables false
set_option linter.unusedSimpArgs false
set_option linter.unnecessarySimpa false

section
set_option maxRecDepth 100000
namespace Go.Proofs.YtmmdaegdkikkpaaGreatDoor
open Go.RowKit Go.PlainAid
def FarV (b : Nat) (v vt vc : Value) : Prop := ∀ g off n c, v = .slice (some ⟨g, off, none⟩) n c → 0 < n → b < g ∧ vt.ownBlock ≠ some g ∧ vc.ownBlock ≠ some g
structure SB (W : World) (b : Nat) (ts : List Ty) (cvs : List Cv) (vt vc : Value) : Prop where
 blk : W.heap[b]? = some (.cells #[vt, vc] 25)
 rowT : W.ownsRow (b + 1) 62 3 vt ts.length (ycells ts)
 rowC : W.ownsRow (b + 1) 64 4 vc cvs.length (ccells cvs)
 apart : vt.ownBlock = none ∨ vt.ownBlock ≠ vc.ownBlock
 ok : ∀ d ∈ cvs, CvOk W d
 far : ∀ d ∈ cvs, FarV b d.hm vt vc ∧ FarV b d.hy vt vc
theorem SB.lt {W : World} {b : Nat} {ts : List Ty} {cvs : List Cv} {vt vc : Value} (h : SB W b ts cvs vt vc) : b < W.heap.size := (Array.getElem?_eq_some_iff.1 h.blk).1
theorem SB.below {W V : World} {b : Nat} {ts : List Ty} {cvs : List Cv} {vt vc : Value} (h : SB W b ts cvs vt vc) (hb : Below W.heap.size W V) : SB V b ts cvs vt vc :=
 ⟨(hb.block _ h.lt).trans h.blk, own_below h.rowT hb, own_below h.rowC hb, h.apart, fun d hd => (h.ok d hd).below hb, h.far⟩
theorem Hdr.keepP {w w' : World} {v : Value} {l : List ByteArray} (h : Hdr w v l) (hs : w.heap.size ≤ w'.heap.size) (hk : ∀ g off n c, v = .slice (some ⟨g, off, none⟩) n c → 0 < n → g < w.heap.size → w'.heap[g]? = w.heap[g]?) : Hdr w' v l := by
 obtain ⟨ao, n, cap, rfl, h1, h2, h3, h4⟩ := h
 refine ⟨ao, n, cap, rfl, h1, h2, h3, fun hn => ?_⟩
 obtain ⟨g, off, rfl, hi⟩ := h4 hn
 refine ⟨g, off, rfl, Nat.lt_of_lt_of_le hi.1 hs, fun j hj => ?_⟩
 rw [← hi.2 j hj]
 exact World.cell?_of_block (a := ⟨g, off + j, none⟩) (hk g off n cap rfl hn hi.1)
theorem step_append_own_at {ops : Array Oper} {o : Oper} {a : Act} {w : World} {K : Act → World → Prop} {Q : Exit → Act → World → Prop} {E : Prop} (hgd : o.guard = none) (s x : Operand) (t : TypeId)
  (ho : o.op = .call { callee := .builtin .append, args := #[s, x], argTypes := #[t, t] })
  (base : Nat) (e : TypeId) (i : TypeInfo) (z : Value) (size bytes : Nat) (ht : Tryz.prog.underlying t = some (.slice e)) (hi : Tryz.prog.info? e = some i) (hz : i.zero = some z)
  (hsize : i.size = size) (hby : i.bytes = bytes) (hzs : z.cells.size = size) (hsz : 0 < size)
  (v : Value) (n : Nat) (xs : List Value) (hs : a.eval s = v) (hown : w.ownsRow base e size v n xs)
  (ad : Addr) (m c : Nat) (news : List Value) (hx : a.eval x = .slice (some ad) m c) (hl : news.length = m * size) (hnews : ∀ j u, news[j]? = some u → w.cell? (ad.add j) = some u) (h1 : ∀ u ∈ news, u.oneCell' = true)
  (h63 : n + m ≤ maxLen) (hbytes : (n + m) * bytes ≤ 140737488355328) (hbase : base ≤ w.heap.size)
  (h : ∀ v' w', w'.ownsRow base e size v' (n + m) (xs ++ news) → w.grownBy w' v.ownBlock → (v'.ownBlock = v.ownBlock ∨ v'.ownBlock = some w.heap.size) → K (a.put o.dst v') w') :
  if Region.wanted o (yielded ops a.tmps) = true then Oper.wp Tryz.prog o a w K Q else E := by
 have hw : Region.wanted o (yielded ops a.tmps) = true := by simp [Region.wanted, hgd]
 rw [if_pos hw]
 obtain ⟨v', w', hr, h2, h3, _, h5⟩ := run_append_own_at (P := Tryz.prog) w base t o.type e i z size bytes ht hi hz hsize hby hzs hsz v n xs hown ad m c news hl hnews h1 h63 hbytes hbase
 unfold Oper.wp execOp
 simp only [ho, resolve, invoke, builtin, Sem.run_bind, Sem.run_pure, Result.andThen_ok, List.map_toArray, List.map_cons, List.map_nil, hs, hx, hr]
 exact h v' w' h2 h3 h5
theorem row_slice {w : World} {base : Nat} {e : TypeId} {size : Nat} {v : Value} {n : Nat} {xs : List Value} (h : w.ownsRow base e size v n xs) : ∃ ao cap, v = .slice ao n cap := by
 rcases h.2 with ⟨rfl, rfl⟩ | ⟨g, cap, cur, rfl, _⟩
 ·exact ⟨_, _, rfl⟩
 ·exact ⟨_, _, rfl⟩
theorem FarV.fresh {W : World} {b : Nat} {ts : List Ty} {cvs : List Cv} {vt vc : Value} (h : SB W b ts cvs vt vc) {ao : Option Addr} {n c : Nat} (hf : FreshA W.heap.size ao) : FarV b (.slice ao n c) vt vc := fun g off n' c' e hn => by
 simp only [Value.slice.injEq] at e
 obtain ⟨rfl, _, _⟩ := e
 have hg := hf g off rfl
 refine ⟨by have := h.lt; omega, fun e => by have := (h.rowT.lt g e).2; omega, fun e => by have := (h.rowC.lt g e).2; omega⟩
theorem SB.other {W : World} {b : Nat} {ts : List Ty} {cvs : List Cv} {vt vc : Value} (h : SB W b ts cvs vt vc) (a : Addr) (ha : a.block < b) (u : Value) : SB (W.setCell a u) b ts cvs vt vc := by
 have hsz : W.heap.size ≤ (W.setCell a u).heap.size := by simp [World.setCell]
 have hk : ∀ {v : Value} {l : List ByteArray}, Hdr W v l → FarV b v vt vc → Hdr (W.setCell a u) v l := fun hh hf => hh.keepP hsz fun g off n c e hn hgl => Below.heap_setCell W a u g (by have := (hf g off n c e hn).1; omega)
 exact ⟨(Below.heap_setCell W a u b (by omega)).trans h.blk, ownsRow_setCell_below h.rowT (by omega) u, ownsRow_setCell_below h.rowC (by omega) u, h.apart, fun d hd => ⟨hk (h.ok d hd).1 (h.far d hd).1, hk (h.ok d hd).2 (h.far d hd).2⟩, h.far⟩
theorem StrsAt.tail {w : World} {b off n cap : Nat} {l : List ByteArray} (h : StrsAt w (some ⟨b, off, none⟩) n cap l) (hn : 0 < n) : StrsAt w (some ⟨b, off + 1, none⟩) (n - 1) (cap - 1) l.tail := by
 cases l with
 | nil => have := h.1; simp at this; omega
 | cons p r => exact h.drop
theorem cut_lt {s : ByteArray} (h : cutOk s ⟨#[10]⟩ = true) : (cutAft s ⟨#[10]⟩).size < s.size ∧ (cutBef s ⟨#[10]⟩).size ≤ s.size := by
 rcases cut_one s 10 with ⟨_, _, h1, h2, _⟩ | ⟨h0, _⟩
 ·exact ⟨h1, h2⟩
 ·rw [h] at h0; cases h0
theorem emp_false {s : ByteArray} (h : s ≠ ⟨#[]⟩) : s.toList.isEmpty = false := by
 rw [Lib.toList_data]
 rcases s with ⟨⟨l⟩⟩
 cases l with
 | nil => exact absurd rfl h
 | cons => rfl
theorem cl_takeAt (l : List Cl) {k j : Nat} (h : j < k) : clAt (l.take k) j = clAt l j := by
 unfold clAt; rw [List.getD_eq_getElem?_getD, List.getElem?_take_of_lt h, List.getD_eq_getElem?_getD]
theorem ty_takeAt (l : List Ty) {k j : Nat} (h : j < k) : tyAt (l.take k) j = tyAt l j := by
 unfold tyAt; rw [List.getD_eq_getElem?_getD, List.getElem?_take_of_lt h, List.getD_eq_getElem?_getD]
theorem ClsAt.cut {w : World} {ao : Option Addr} {n cap : Nat} {l : List Cl} (h : ClsAt w ao n cap l) {k : Nat} (hk : k ≤ n) : ClsAt w ao k cap (l.take k) := by
 obtain ⟨h1, h2, h3, h4⟩ := h
 refine ⟨by rw [List.length_take]; omega, by omega, h3, fun hn => ?_⟩
 obtain ⟨b, off, e, hb, hs⟩ := h4 (by omega)
 exact ⟨b, off, e, hb, fun j hj => by rw [cl_takeAt l hj]; exact hs j (by omega)⟩
theorem TysAt.cut {w : World} {ao : Option Addr} {n cap : Nat} {l : List Ty} (h : TysAt w ao n cap l) {k : Nat} (hk : k ≤ n) : TysAt w ao k cap (l.take k) := by
 obtain ⟨h1, h2, h3, h4⟩ := h
 refine ⟨by rw [List.length_take]; omega, by omega, h3, fun hn => ?_⟩
 obtain ⟨b, off, e, hb, hs⟩ := h4 (by omega)
 exact ⟨b, off, e, hb, fun j hj => by rw [ty_takeAt l hj]; exact hs j (by omega)⟩
structure GuardB (G : Prop) (w : World) (e : Ending) (w' : World) : Prop where
 ans : ∃ b : Bool, e = .returned (.bool b) ∧ (b = true → G) ∧ Below w.heap.size w w'
theorem guardB_no {G : Prop} {w w' : World} (h : Below w.heap.size w w') : GuardB G w (.returned (.bool false)) w' := ⟨⟨false, rfl, (fun e => by cases e), h⟩⟩
theorem guardB_yes {G : Prop} {w w' : World} (g : G) (h : Below w.heap.size w w') : GuardB G w (.returned (.bool true)) w' := ⟨⟨true, rfl, fun _ => g, h⟩⟩
theorem cells_new (w : World) (cs : List Value) (e : TypeId) (j : Nat) (u : Value) (h : cs[j]? = some u) : (w.alloc (.cells cs.toArray e)).cell? ⟨w.heap.size, j, none⟩ = some u := by
 have hb := heap_alloc_new w (.cells cs.toArray e)
 unfold World.cell?
 simp only [hb]
 simpa using h
theorem strs_new (w : World) (l : List ByteArray) (h : l.length ≤ maxLen) : StrsAt (w.alloc (.cells (scells l).toArray 9)) (some ⟨w.heap.size, 0, none⟩) l.length l.length l :=
 ⟨rfl, Nat.le_refl _, h, fun _ => ⟨w.heap.size, 0, rfl, by simp, fun j hj => by
  rw [Nat.zero_add]
  refine cells_new w _ _ _ _ ?_
  unfold scells partAt
  rw [List.getElem?_map, List.getD_eq_getElem?_getD, List.getElem?_eq_getElem hj]; rfl⟩⟩
def Kb (W : World) (b : Nat) (o : Obj) : Prop := W.heap[b]? = some o
theorem Kb.big {W : World} {b : Nat} {o : Obj} (h : Kb W b o) : b < W.heap.size := by
 rcases Nat.lt_or_ge b W.heap.size with k | k
 ·exact k
 ·unfold Kb at h; rw [Array.getElem?_eq_none k] at h; cases h
theorem Kb.step {W V : World} {b : Nat} {o : Obj} (h : Kb W b o) (hb : Below W.heap.size W V) : Kb V b o := (hb.block b h.big).trans h
theorem kbl_new (W : World) (o : Obj) : Kb (W.alloc o) W.heap.size o := heap_alloc_new W o
theorem Kb.cell {W : World} {b i : Nat} {c : Array Value} {t : TypeId} {v : Value} (h : Kb W b (.cells c t)) (hv : c[i]? = some v) : W.cell? ⟨b, i, none⟩ = some v := heap_cell h hv
theorem Kb.set {W : World} {b : Nat} {o : Obj} (h : Kb W b o) (a : Addr) (u : Value) (hn : b ≠ a.block) : Kb (W.setCell a u) b o := (heap_setCell_other W a b u hn).trans h
theorem strs_kb {W : World} {b n : Nat} {l : List ByteArray} (h : Kb W b (.cells (scells l).toArray 9)) (hn : l.length = n) (hl : n ≤ maxLen) : StrsAt W (some ⟨b, 0, none⟩) n n l :=
 ⟨hn, Nat.le_refl _, hl, fun _ => ⟨b, 0, rfl, h.big, fun j hj => by
  rw [Nat.zero_add]
  refine h.cell ?_
  unfold scells partAt
  rw [List.getElem?_toArray, List.getElem?_map, List.getD_eq_getElem?_getD, List.getElem?_eq_getElem (by omega)]; rfl⟩⟩
theorem smT_dec {ts : List Ty} (h : ts.all (fun t => decide (t.name.size ≤ 1000)) = true) : SmT ts := fun t ht => by
 have := of_decide_eq_true (List.all_eq_true.1 h t ht); omega
theorem smC_dec {cs : List Cl} (h : cs.all (fun c => decide (c.name.size ≤ 1000) && decide (c.super.size ≤ 1000) && c.must.all (fun s => decide (s.size ≤ 1000)) && c.may.all (fun s => decide (s.size ≤ 1000))) = true) : SmC cs := fun c hc => by
 have h := List.all_eq_true.1 h c hc
 simp only [Bool.and_eq_true, List.all_eq_true, decide_eq_true_eq] at h
 obtain ⟨⟨⟨h1, h2⟩, h3⟩, h4⟩ := h
 exact ⟨by omega, by omega, fun s hs => by have := h3 s hs; omega, fun s hs => by have := h4 s hs; omega⟩
theorem below_al (W : World) (o : Obj) : Below W.heap.size W (W.alloc o) := (Below.refl _ _).alloc (Nat.le_refl _) o
theorem kb_at {W : World} {b : Nat} (o : Obj) (h : W.heap.size = b) : Kb (W.alloc o) b o := by subst h; exact kbl_new W o
end Go.Proofs.YtmmdaegdkikkpaaGreatDoor
end

section
set_option maxRecDepth 100000
namespace Go.Proofs.YtmmdaegdkikkpaaGreatDoor
open Go.RowKit Go.PlainAid Go.Maps
theorem strs_turned {w w' : World} {b m : Nat} {D : DataW Unit} {ks : List ByteArray} {ao : Option Addr} {n cap : Nat} {l : List ByteArray} (h : StrsAt w ao n cap l) (G : SetM w b m D ks) (hg : w.grownBy w' (some b)) : StrsAt w' ao n cap l := by
 refine ⟨h.1, h.2.1, h.2.2.1, fun hn => ?_⟩
 obtain ⟨g, off, e, hl, hc⟩ := h.2.2.2 hn
 have hne : g ≠ b := by
  rintro rfl
  obtain ⟨es, clock, hb, _⟩ := G.map
  have := hc 0 (by rw [h.1]; exact hn)
  simp [World.cell?, hb] at this
 exact ⟨g, off, e, Nat.lt_of_lt_of_le hl hg.size, fun j hj => (hg.cell (hc j hj) (fun e => hne (Option.some.inj e)))⟩
def askB (cs : List Cl) (P : List ByteArray) (v : ByteArray) : Bool := (clOf cs (foldS v)).isSome && (mustS cs (foldS v)).all (memB P)
def allowL (cs : List Cl) (C : List ByteArray) : List ByteArray := [classN] ++ C.flatMap fun v => mayS cs (foldS v)
def fitsB (cs : List Cl) (l : List At) : Bool :=
 (vals l (lowS classN)).all (askB cs (names l)) && (memB (names l) classN && (names l).all (memB (allowL cs (vals l (lowS classN)))))
theorem allowL_take (cs : List Cl) (C : List ByteArray) (k : Nat) (h : k < C.length) : allowL cs (C.take (k + 1)) = allowL cs (C.take k) ++ mayS cs (foldS (partAt C k)) := by
 unfold allowL
 rw [take_snoc C k h, List.flatMap_append, List.append_assoc]
 simp
theorem mayS_few {cs : List Cl} (hS : SoundC cs) (hL : cs.length ≤ 1000) (hF : FewC cs) (n : ByteArray) : (mayS cs n).length ≤ 128000 := by
 rw [mayS_eq]
 refine Nat.le_trans (sortU_len _) ?_
 rw [List.length_map, List.length_append]
 have h1 := mustS_few hS hL hF n
 have h2 : (mayL (lineS cs n)).length ≤ 64000 := mayL_few hF (fun c hc => lineS_mem hc) (Nat.le_trans (lineS_small hS n) hL)
 show (mustS cs n).length + (mayL (lineS cs n)).length ≤ 128000
 omega
theorem mayS_small {cs : List Cl} (hZ : SmC cs) {n s : ByteArray} (h : s ∈ mayS cs n) : s.size ≤ 1000000000 := by
 rw [mayS_eq, sortU_mem] at h
 obtain ⟨t, ht, rfl⟩ := List.mem_map.1 h
 rw [lowS_size]
 rcases List.mem_append.1 ht with h | h
 ·exact mustS_small hZ h
 ·obtain ⟨c, hc, hs⟩ := List.mem_flatMap.1 h
  exact (hZ c (lineS_mem hc)).2.2.2 t hs
theorem namesF_small {l : List At} (h : SmallA l) {s : ByteArray} (hs : s ∈ names l) : s.size ≤ 1100000 := by
 unfold names at hs
 rw [sortU_mem] at hs
 obtain ⟨a, ha, rfl⟩ := List.mem_map.1 hs
 rw [lowS_size]
 exact (h a (List.mem_filter.1 ha).1).1
set_option maxHeartbeats 16000000 in
theorem fits_s (mt mc : Option Nat) (w0 : World) (cs : List Cl) (ao : Option Addr) (n cap : Nat) (l : List At) (w : World) (h0 : Below w0.heap.size w0 w) (h : CMap w0 w mc cs) (hS : SoundC cs) (hL : cs.length ≤ 1000) (hZ : SmC cs) (hF : FewC cs) (hl : AttrsAt w ao n cap l) (hFw : Few l)
  (hC : (vals l (lowS classN)).length ≤ 100000 ∧ ∀ v ∈ vals l (lowS classN), v.size ≤ 1100000) (hP : (names l).length ≤ 3000) :
  Calls Tryz.prog 111 #[.agg #[.map mt, .map mc], .slice ao n cap] w fun e w' => e = .returned (.bool (fitsB cs l)) ∧ Below w.heap.size w w' := by
 have HN := Lib.hid (fun (W : World) (hW : Below w.heap.size w W) => names_s ao n cap l W (hl.below hW) hFw)
 have HG := Lib.hid (fun (W : World) (hW : Below w.heap.size w W) => get_s ao n cap l classN W (hl.below hW) hFw (by decide))
 have HCl := Lib.hid (fun (n : ByteArray) (W : World) (hn : n.size ≤ 1000000000) (hW : Below w.heap.size w W) => class_s mt mc w0 cs n W (h.below hW) hn)
 have HMu := Lib.hid (fun (n : ByteArray) (W : World) (hn : n.size ≤ 1000000000) (hW : Below w.heap.size w W) => must_s mt mc w0 cs n W (h0.trans (hW.mono h0.size)) (h.below hW) hS hL hZ hF hn)
 have HMa := Lib.hid (fun (n : ByteArray) (W : World) (hn : n.size ≤ 1000000000) (hW : Below w.heap.size w W) => may_s mt mc w0 cs n W (h0.trans (hW.mono h0.size)) (h.below hW) hS hL hZ hF hn)
 have HQ := Lib.hid (And.intro (fun n => mustS_few hS hL hF n) (And.intro (fun n => mayS_few hS hL hF n) (And.intro (fun n s (hs : s ∈ mustS cs n) => mustS_small hZ hs) (fun n s (hs : s ∈ mayS cs n) => mayS_small hZ hs))))
 have HPS := Lib.hid (fun s (hs : s ∈ names l) => namesF_small hFw.small hs)
 have HE := Lib.hid (show fitsB cs l = ((vals l (lowS classN)).all (askB cs (names l)) && (memB (names l) classN && (names l).all (memB (allowL cs (vals l (lowS classN)))))) from rfl)
 obtain ⟨P, hPe⟩ : ∃ P, names l = P := ⟨_, rfl⟩
 obtain ⟨C, hCe⟩ : ∃ C, vals l (lowS classN) = C := ⟨_, rfl⟩
 obtain ⟨R, hRe⟩ : ∃ R, fitsB cs l = R := ⟨_, rfl⟩
 rw [hPe, hCe, hRe] at HE
 rw [hPe] at HN HPS hP
 rw [hCe] at HG hC
 rw [hRe]
 clear hPe hCe hRe h0 h hS hZ hF hl hFw
 have HCS := Lib.hid hC.2
 replace hC := hC.1
 have B1 := (Below.refl w.heap.size w).alloc (Nat.le_refl _) (.cells #[.map mt, .map mc] 130)
 have B2 := B1.alloc (by simp) (.map #[] 0)
 have G0 := setM_made (H := Unit) (w.alloc (.cells #[.map mt, .map mc] 130))
 have HB0 := Lib.hid B2
 have HM0 := Lib.hid (show ((w.alloc (.cells #[.map mt, .map mc] 130)).alloc (.map #[] 0)).cell? ⟨w.heap.size, 0, none⟩ = some (.map mt) ∧ ((w.alloc (.cells #[.map mt, .map mc] 130)).alloc (.map #[] 0)).cell? ⟨w.heap.size, 1, none⟩ = some (.map mc) from ⟨by go_simp, by go_simp⟩)
 have HG0 := Lib.hid G0
 have hmm := @run_makeMap Tryz.prog
 clear B1 B2 G0
 go_enter Tryz.func111, Tryz.ntmps111
 go_wp2_with fail
 refine (HN.out _ HB0.out).mono ?_
 rintro e w1 ⟨v, rfl, ⟨no, nn, nc, rfl, hP1⟩, hb⟩
 have hnn := hP1.1
 have hg1 := SetM.below HG0.out hb
 rw [World.size_alloc] at hg1
 have HG1 := Lib.hid hg1
 clear hg1
 have HM1 := Lib.hid (And.intro (cell_later hb HM0.out.1) (cell_later hb HM0.out.2))
 have hsz1 : w.heap.size + 1 < w1.heap.size := by have := hb.size; simp at this; omega
 have HB1 := Lib.hid (HB0.out.trans (hb.mono (by simp; omega)))
 have HP1 := Lib.hid hP1
 clear hb HG0 HM0 HB0 hP1
 go_wp2_with fail
 go_loopw [7, 20] (fun s7 i wr => ∃ (k : Nat) (D : DataW Unit), k ≤ nn ∧ i = .int .i64 k ∧ Hid (SetM wr (w.heap.size + 1) k D (P.take k)) ∧ Hid (StrsAt wr no nn nc P) ∧ Hid (wr.cell? ⟨w.heap.size, 0, none⟩ = some (.map mt) ∧ wr.cell? ⟨w.heap.size, 1, none⟩ = some (.map mc)) ∧ Hid (Below w.heap.size w wr ∧ w.heap.size + 1 < wr.heap.size)) (fun _ i _ => nn - (intOf i).toNat)
 case atStart => exact ⟨0, _, Nat.zero_le _, rfl, HG1, HP1, HM1, Lib.hid ⟨HB1.out, hsz1⟩⟩
 case round =>
  clear HG1 HP1 HM1 HB1 hsz1
  obtain ⟨k, D, hk, rfl, HGk, HPk, HMk, HBk⟩ := hrel
  by_cases hlt : k < nn
  ·obtain ⟨g, off, e, hg, hc⟩ := HPk.out.2.2.2 (by omega)
   subst e
   have hcell := hc k (by omega)
   clear hc
   obtain ⟨p, hp⟩ : ∃ x, partAt P k = x := ⟨_, rfl⟩
   have hps : p.size ≤ 1100000 := by rw [← hp]; exact HPS.out _ (part_mem P k (by omega))
   rw [hp] at hcell
   have HT := Lib.hid (show P.take (k + 1) = P.take k ++ [p] by rw [← hp]; exact take_snoc P k (by omega))
   clear hp
   obtain ⟨w', hrun, HG', hgr⟩ := HGk.out.store p (by unfold maxLen; omega) (by unfold maxLen; omega)
   have HG2 := Lib.hid HG'
   have HP2 := Lib.hid (strs_turned HPk.out HGk.out hgr)
   have HM2 := Lib.hid (And.intro (cell_turned HMk.out.1 hgr (by show w.heap.size ≠ w.heap.size + 1; omega)) (cell_turned HMk.out.2 hgr (by show w.heap.size ≠ w.heap.size + 1; omega)))
   have HB2 := Lib.hid (And.intro (HBk.out.1.grown hgr (by have := HBk.out.2; omega) (fun j hj => by have := Option.some.inj hj; omega)) (Nat.lt_of_lt_of_le HBk.out.2 hgr.size))
   clear HG' hgr
   have d1 : (k : Int) < (nn : Int) := by omega
   go_wp2_with fail
   go_roundw
   case rel => exact ⟨k + 1, _, by omega, by go_num, by rw [HT.out]; exact HG2, HP2, HM2, HB2⟩
   case measure => simp [intOf]; omega
  ·obtain rfl : k = nn := by omega
   rw [List.take_of_length_le (by omega)] at HGk
   have d1 : ¬ (k : Int) < (k : Int) := by omega
   have hsz := HBk.out.2
   have G2 := setM_made (H := Unit) wr
   obtain ⟨w5, hrun5, hG5, hg5⟩ := G2.store classN (by decide) (by unfold maxLen; omega)
   have hal := (Below.refl wr.heap.size wr).alloc (Nat.le_refl _) (.map #[] 0)
   have HG5 := Lib.hid hG5
   have HP5 := Lib.hid ((SetM.below HGk.out hal).kept hg5 (by intro e; have := Option.some.inj e; omega))
   have HM5 := Lib.hid (And.intro (cell_turned (cell_later hal HMk.out.1) hg5 (by show w.heap.size ≠ wr.heap.size; omega)) (cell_turned (cell_later hal HMk.out.2) hg5 (by show w.heap.size ≠ wr.heap.size; omega)))
   have HB5 := Lib.hid (show Below w.heap.size w w5 ∧ wr.heap.size < w5.heap.size from ⟨(HBk.out.1.trans (hal.mono (by omega))).grown hg5 (by simp; omega) (fun j hj => by have := Option.some.inj hj; omega), by have := hg5.size; simp at this; omega⟩)
   clear G2 hG5 hg5 hal
   unfold classN at hrun5
   go_wp2_with fail
   clear hrun5 hmm
   refine (HG.out w5 HB5.out.1).mono ?_
   rintro e w6 ⟨v, rfl, ⟨co, cn, cc, rfl, hC6⟩, hb⟩
   have hcn := hC6.1
   have HC6 := Lib.hid hC6
   have HG6 := Lib.hid (SetM.below HG5.out hb)
   have HP6 := Lib.hid (SetM.below HP5.out hb)
   have HM6 := Lib.hid (And.intro (cell_later hb HM5.out.1) (cell_later hb HM5.out.2))
   have HB6 := Lib.hid (show Below w.heap.size w w6 ∧ wr.heap.size < w6.heap.size from ⟨HB5.out.1.trans (hb.mono HB5.out.1.size), Nat.lt_of_lt_of_le HB5.out.2 hb.size⟩)
   clear hb hC6 HG5 HP5 HM5 HB5 HGk HPk HMk HBk
   obtain ⟨ma, hma⟩ : ∃ x, wr.heap.size = x := ⟨_, rfl⟩
   rw [hma] at HG6 HB6 hsz ⊢
   clear hma
   go_wp2_with fail
   go_loopw [10, 11, 12, 13, 15, 32] (fun s10 s11 s12 s13 s15 i wq => ∃ (j N : Nat) (D' : DataW Unit), j ≤ cn ∧ i = .int .i64 j ∧ N ≤ 1 + j * 128000 ∧ Hid ((C.take j).all (askB cs P) = true) ∧ Hid (SetM wq ma N D' (allowL cs (C.take j))) ∧ Hid (SetM wq (w.heap.size + 1) k D P) ∧ Hid (StrsAt wq co cn cc C) ∧ Hid (wq.cell? ⟨w.heap.size, 0, none⟩ = some (.map mt) ∧ wq.cell? ⟨w.heap.size, 1, none⟩ = some (.map mc)) ∧ Hid (Below w.heap.size w wq ∧ ma < wq.heap.size)) (fun _ _ _ _ _ i _ => cn - (intOf i).toNat)
   case atStart => exact ⟨0, 1, _, Nat.zero_le _, rfl, by omega, Lib.hid rfl, HG6, HP6, HC6, HM6, HB6⟩
   case round =>
    clear HG6 HP6 HC6 HM6 HB6
    obtain ⟨j, N, D', hj, rfl, hN, HA, HGj, HPj, HCj, HMj, HBj⟩ := hrel
    obtain ⟨m0, m1⟩ := HMj.out
    by_cases hlt2 : j < cn
    ·obtain ⟨g, off, e, hg, hc⟩ := HCj.out.2.2.2 (by omega)
     subst e
     have hcell := hc j (by omega)
     clear hc
     have hps := HCS.out _ (part_mem C j (by omega))
     have HTa := Lib.hid (allowL_take cs C j (by omega))
     have HTt := Lib.hid (show askB cs P (partAt C j) = true → (C.take (j + 1)).all (askB cs P) = true from fun h => all_take HA.out (by omega) h)
     have HTf := Lib.hid (show askB cs P (partAt C j) = false → R = false from fun h => by rw [HE.out, all_false (by omega) h]; rfl)
     obtain ⟨p, hp⟩ : ∃ x, partAt C j = x := ⟨_, rfl⟩
     rw [hp] at hcell hps HTa HTt HTf
     clear hp
     have hfs : (foldS p).size ≤ 1100000 := Nat.le_trans (foldS_size p) hps
     have HASK := Lib.hid (show askB cs P p = ((clOf cs (foldS p)).isSome && (mustS cs (foldS p)).all (memB P)) from rfl)
     have d2 : (j : Int) < (cn : Int) := by omega
     go_wp2_with fail
     refine (fold_s p _ (by omega)).mono ?_
     rintro e w7 ⟨rfl, hb⟩
     obtain ⟨f, hf⟩ : ∃ f, foldS p = f := ⟨_, rfl⟩
     rw [hf] at HTa hfs HASK ⊢
     clear hf
     have HB7 := Lib.hid (show Below w.heap.size w w7 ∧ w.heap.size + 1 < w7.heap.size from ⟨HBj.out.1.trans (hb.mono HBj.out.1.size), by have := HBj.out.2; have := hb.size; omega⟩)
     have HK7 := Lib.hid hb
     have m0 := cell_later hb m0
     have m1 := cell_later hb m1
     have hsz7 : w.heap.size < w7.heap.size := by have := HB7.out.2; omega
     clear hb
     go_wp2_with fail
     refine (HCl.out f _ (by omega) HB7.out.1).mono ?_
     rintro e w8 ⟨⟨cl, _, _⟩, a1, p1, q1, a2, p2, q2, rfl, rfl, _, rfl, hb⟩
     dsimp only
     obtain ⟨ok, hok⟩ : ∃ b, (clOf cs f).isSome = b := ⟨_, rfl⟩
     rw [hok] at HASK ⊢
     clear hok
     generalize cl.name = xn
     generalize cl.super = xs
     have hal := (Below.refl w8.heap.size w8).alloc (Nat.le_refl _) (.cells #[.string xn, .string xs, .slice a1 p1 q1, .slice a2 p2 q2] 64)
     have HK8 := Lib.hid (HK7.out.trans (hb.mono HK7.out.size))
     have HB8 := Lib.hid (show Below w.heap.size w w8 ∧ w.heap.size + 1 < w8.heap.size from ⟨HB7.out.1.trans (hb.mono HB7.out.1.size), by have := HB7.out.2; have := hb.size; omega⟩)
     have HK9 := Lib.hid (HK8.out.trans (hal.mono HK8.out.size))
     have HB9 := Lib.hid (HB8.out.1.trans (hal.mono HB8.out.1.size))
     have m0 := cell_later hb m0
     have m1 := cell_later hb m1
     have hsz8 : w.heap.size < w8.heap.size := by have := HB8.out.2; omega
     clear hal hb hsz7 HB7 HK7
     cases ok
     ·have HR := Lib.hid (HTf.out (HASK.out.trans rfl))
      go_wp2_with fail
      go_ret
      exact ⟨by rw [HR.out]; rfl, HB9.out⟩
     ·have hask : askB cs P p = (mustS cs f).all (memB P) := HASK.out.trans rfl
      go_wp2_with fail
      refine (HMu.out f _ (by omega) HB9.out).mono ?_
      rintro e w10 ⟨u, rfl, hou, hb⟩
      obtain ⟨uo, uc, rfl, hus⟩ := strs_own hou rfl
      have HK10 := Lib.hid (HK9.out.trans (hb.mono HK9.out.size))
      have HB10 := Lib.hid (HB9.out.trans (hb.mono HB9.out.size))
      have hal2 := (Below.refl w8.heap.size w8).alloc (Nat.le_refl _) (.cells #[.string xn, .string xs, .slice a1 p1 q1, .slice a2 p2 q2] 64)
      have m0 := cell_later hb (cell_later hal2 m0)
      have m1 := cell_later hb (cell_later hal2 m1)
      have HCo := Lib.hid (contains_s (w.heap.size + 1) k D P uo _ uc (mustS cs f) w10 (SetM.below HPj.out HK10.out) hus (fun s hs => HQ.out.2.2.1 f s hs))
      obtain ⟨cb, hcb⟩ : ∃ b, (mustS cs f).all (memB P) = b := ⟨_, rfl⟩
      rw [hcb] at hask HCo
      clear hb hou hus hal2 hcb HK9 HK8
      go_wp2_with fail
      refine HCo.out.mono ?_
      rintro e w11 ⟨rfl, rfl⟩
      cases cb
      ·have HR := Lib.hid (HTf.out hask)
       go_wp2_with fail
       go_ret
       exact ⟨by rw [HR.out]; rfl, HB10.out⟩
      ·have HAk := Lib.hid (HTt.out hask)
       clear hask
       go_wp2_with fail
       refine (HMa.out f _ (by omega) HB10.out).mono ?_
       rintro e w12 ⟨u, rfl, hou, hb⟩
       obtain ⟨mo, mcap, rfl, hms⟩ := strs_own hou rfl
       have hml := HQ.out.2.1 f
       have hmz := Lib.hid (HQ.out.2.2.2 f)
       obtain ⟨M, hM⟩ : ∃ M, mayS cs f = M := ⟨_, rfl⟩
       rw [hM] at hms hml hmz HTa ⊢
       have HK12 := Lib.hid (HK10.out.trans (hb.mono HK10.out.size))
       have HS12 := Lib.hid hms
       have HG12 := Lib.hid (SetM.below HGj.out HK12.out)
       have HP12 := Lib.hid (SetM.below HPj.out HK12.out)
       have HC12 := Lib.hid (HCj.out.below HK12.out)
       have HM12 := Lib.hid (And.intro (cell_later hb m0) (cell_later hb m1))
       have HB12 := Lib.hid (show Below w.heap.size w w12 ∧ ma < w12.heap.size from ⟨HB10.out.trans (hb.mono HB10.out.size), Nat.lt_of_lt_of_le HBj.out.2 HK12.out.size⟩)
       clear hb hou hms hM m0 m1 HK10 HB10 HGj HPj HCj HMj HBj HB9 HB8 HCo hsz8
       have hNb : N ≤ 12800000001 := by omega
       go_wp2_with fail
       go_loopw [15, 58] (fun s15 i wz => ∃ (q : Nat) (D2 : DataW Unit), q ≤ M.length ∧ i = .int .i64 q ∧ Hid (SetM wz ma (N + q) D2 (allowL cs (C.take j) ++ M.take q)) ∧ Hid (SetM wz (w.heap.size + 1) k D P) ∧ Hid (StrsAt wz mo M.length mcap M) ∧ Hid (StrsAt wz (some ⟨g, off, none⟩) cn cc C) ∧ Hid (wz.cell? ⟨w.heap.size, 0, none⟩ = some (.map mt) ∧ wz.cell? ⟨w.heap.size, 1, none⟩ = some (.map mc)) ∧ Hid (Below w.heap.size w wz ∧ ma < wz.heap.size)) (fun _ i _ => M.length - (intOf i).toNat)
       case atStart => exact ⟨0, D', Nat.zero_le _, rfl, Lib.hid (by rw [List.take_zero, List.append_nil]; exact HG12.out), HP12, HS12, HC12, HM12, HB12⟩
       case round =>
        clear HG12 HP12 HS12 HC12 HM12 HB12
        obtain ⟨q, D2, hq, rfl, HGz, HPz, HSz, HCz, HMz, HBz⟩ := hrel
        by_cases hlt3 : q < M.length
        ·obtain ⟨g2, off2, e, hg2, hc2⟩ := HSz.out.2.2.2 (by omega)
         subst e
         have hcell2 := hc2 q hlt3
         clear hc2
         have hys := hmz.out _ (part_mem M q hlt3)
         have HTq := Lib.hid (show M.take (q + 1) = M.take q ++ [partAt M q] from take_snoc M q hlt3)
         obtain ⟨y, hy⟩ : ∃ x, partAt M q = x := ⟨_, rfl⟩
         rw [hy] at hcell2 hys HTq
         clear hy
         obtain ⟨w', hrun, HG', hgr⟩ := HGz.out.store y (by unfold maxLen; omega) (by unfold maxLen; omega)
         have HG2 := Lib.hid HG'
         have HS2 := Lib.hid (strs_turned HSz.out HGz.out hgr)
         have HC2 := Lib.hid (strs_turned HCz.out HGz.out hgr)
         have HP2 := Lib.hid (HPz.out.kept hgr (by intro e; have := Option.some.inj e; omega))
         have HM2 := Lib.hid (And.intro (cell_turned HMz.out.1 hgr (by show w.heap.size ≠ ma; omega)) (cell_turned HMz.out.2 hgr (by show w.heap.size ≠ ma; omega)))
         have HB2 := Lib.hid (And.intro (HBz.out.1.grown hgr (by have := HBz.out.2; omega) (fun j hj => by have := Option.some.inj hj; omega)) (Nat.lt_of_lt_of_le HBz.out.2 hgr.size))
         clear HG' hgr
         have d3 : (q : Int) < (M.length : Int) := by omega
         go_wp2_with fail
         go_roundw
         case rel => exact ⟨q + 1, _, by omega, by go_num, Lib.hid (by rw [HTq.out, ← List.append_assoc, ← Nat.add_assoc]; exact HG2.out), HP2, HS2, HC2, HM2, HB2⟩
         case measure => simp [intOf]; omega
        ·obtain rfl : q = M.length := by omega
         rw [List.take_length] at HGz
         have d3 : ¬ (M.length : Int) < (M.length : Int) := by omega
         go_wp2_with fail
         go_roundw
         case rel => exact ⟨j + 1, N + M.length, D2, by omega, by go_num, by omega, HAk, Lib.hid (by rw [HTa.out]; exact HGz.out), HPz, HCz, HMz, HBz⟩
         case measure => simp [intOf]; omega
    ·obtain rfl : j = cn := by omega
     rw [List.take_of_length_le (by omega)] at HGj HA
     have d2 : ¬ (j : Int) < (j : Int) := by omega
     have hlook := HPj.out.look classN (by decide)
     have HE2 := Lib.hid (show R = (memB P classN && P.all (memB (allowL cs C))) from HE.out.trans (by rw [HA.out]; rfl))
     obtain ⟨pc, hpc⟩ : ∃ b, memB P classN = b := ⟨_, rfl⟩
     rw [hpc] at hlook HE2
     unfold classN at hlook
     clear hpc
     cases pc
     ·have HE3 := Lib.hid (show R = false from HE2.out.trans rfl)
      go_wp2_with fail
      go_ret
      exact ⟨by rw [HE3.out]; rfl, HBj.out.1⟩
     ·have HE3 := Lib.hid (show R = P.all (memB (allowL cs C)) from HE2.out.trans rfl)
      go_wp2_with fail
      refine (HN.out _ HBj.out.1).mono ?_
      rintro e w7 ⟨v, rfl, ⟨o7, n7, c7, rfl, hP7⟩, hb⟩
      have HC7 := Lib.hid (contains_s _ N D' (allowL cs C) o7 n7 c7 P w7 (SetM.below HGj.out hb) hP7 (fun s hs => Nat.le_trans (HPS.out s hs) (by decide)))
      have HB7 := Lib.hid (HBj.out.1.trans (hb.mono HBj.out.1.size))
      clear hb hP7 m0 m1
      go_wp2_with fail
      refine HC7.out.mono ?_
      rintro e w8 ⟨rfl, rfl⟩
      go_wp2_with fail
      go_ret
      exact ⟨by rw [HE3.out]; rfl, HB7.out⟩
def vldE (T : List Ty) (cs : List Cl) (l : List At) : Int :=
 if chkA l ≠ 0 then chkA l else if firstE (fun j => chkAt T (atD l j)) l.length ≠ 0 then firstE (fun j => chkAt T (atD l j)) l.length else if fitsB cs l = true then 0 else 9
structure FewE (l : List At) : Prop where
 few : Few l
 fewV : FewV l
 vals : (vals l (lowS classN)).length ≤ 100000 ∧ ∀ v ∈ vals l (lowS classN), v.size ≤ 1100000
 names : (names l).length ≤ 3000
set_option maxHeartbeats 16000000 in
theorem validF_s (v : Value) (ts : List Ty) (cs : List Cl) (en : ByteArray) (ao : Option Addr) (n cap : Nat) (l : List At) (w : World) (h : SchV w v ts cs) (hl : AttrsAt w ao n cap l) (hF : FewE l) (ho : IntOk w) :
  Calls Tryz.prog 50 #[v, .agg #[.string en, .slice ao n cap]] w fun e w' => e = .returned (.int .i64 (vldE (soundT ts cs) (soundC ts cs) l)) ∧ Below w.heap.size w w' := by
 have h' := h
 obtain ⟨so, k0, scap, bo, m0, dap, rfl, _, _, _, hz⟩ := h'
 have HZ := Lib.hid (smC_sound (ts := ts) hz)
 have hb0 : Below w.heap.size w ((w.alloc (.cells #[.slice so k0 scap, .slice bo m0 dap] 25)).alloc (.cells #[.string en, .slice ao n cap] 37)) := ((Below.refl _ _).alloc (Nat.le_refl _) _).alloc (by simp) _
 have hbw : Below w.heap.size w ((w.alloc (.cells #[.slice so k0 scap, .slice bo m0 dap] 25)).alloc (.cells #[.string en, .slice ao n cap] 37)) := hb0
 have HB0 := Lib.hid hb0
 have HCk := Lib.hid (check_s ao n cap l _ (hl.below hb0) hF.few.small hF.fewV)
 have HAcc := Lib.hid (fun (W : World) (hW : Below w.heap.size w W) => accepted_s _ ts cs W (h.below hW))
 have HL := Lib.hid hl
 have HO := Lib.hid ho
 have HF := Lib.hid hF
 have hln := hl.1
 have hcap := hl.2.1
 have hmx := hl.2.2.1
 unfold maxLen at hmx
 have hE : vldE (soundT ts cs) (soundC ts cs) l = if chkA l ≠ 0 then chkA l else if firstE (fun j => chkAt (soundT ts cs) (atD l j)) l.length ≠ 0 then firstE (fun j => chkAt (soundT ts cs) (atD l j)) l.length else if fitsB (soundC ts cs) l = true then 0 else 9 := rfl
 obtain ⟨R, hR⟩ : ∃ R, vldE (soundT ts cs) (soundC ts cs) l = R := ⟨_, rfl⟩
 obtain ⟨ce, hce⟩ : ∃ c, chkA l = c := ⟨_, rfl⟩
 rw [hR, hce] at hE
 rw [hR]
 rw [hce] at HCk
 have HE := Lib.hid hE
 clear h hb0 hbw hl hF hz hR hce hE ho
 go_enter Tryz.func50, Tryz.ntmps50
 go_wp2_with fail
 refine HCk.out.mono ?_
 rintro e w1 ⟨rfl, hb⟩
 have q0 : w1.cell? ⟨w.heap.size, 0, none⟩ = some (.slice so k0 scap) := cell_later hb (by go_simp)
 have q1 : w1.cell? ⟨w.heap.size, 1, none⟩ = some (.slice bo m0 dap) := cell_later hb (by go_simp)
 have q2 : w1.cell? ⟨w.heap.size + 1, 1, none⟩ = some (.slice ao n cap) := cell_later hb (by go_simp)
 have HB1 := Lib.hid (show Below w.heap.size w w1 ∧ w.heap.size + 1 < w1.heap.size from ⟨HB0.out.trans (hb.mono (by simp; omega)), by have := hb.size; simp at this; omega⟩)
 clear hb HB0 HCk
 by_cases hc : ce = 0
 ·subst hc
  have HE1 := Lib.hid (show R = if firstE (fun j => chkAt (soundT ts cs) (atD l j)) l.length ≠ 0 then firstE (fun j => chkAt (soundT ts cs) (atD l j)) l.length else if fitsB (soundC ts cs) l = true then 0 else 9 from HE.out.trans (if_neg (by simp)))
  go_wp2_with fail
  refine (HAcc.out w1 HB1.out.1).mono ?_
  rintro e w2 ⟨tv, rfl, ⟨m1, m2, rfl, hT, hC⟩, hb⟩
  have q2 := cell_later hb q2
  have HB2 := Lib.hid (show Below w.heap.size w w2 ∧ w.heap.size + 1 < w2.heap.size from ⟨HB1.out.1.trans (hb.mono HB1.out.1.size), Nat.lt_of_lt_of_le HB1.out.2 hb.size⟩)
  have hsz2 := HB2.out.2
  have hal := (Below.refl w2.heap.size w2).alloc (Nat.le_refl _) (.cells #[.map m1, .map m2] 130)
  have HI := Lib.hid (show (w2.alloc (.cells #[.map m1, .map m2] 130)).cell? ⟨w2.heap.size, 0, none⟩ = some (.map m1) ∧ (w2.alloc (.cells #[.map m1, .map m2] 130)).cell? ⟨w2.heap.size, 1, none⟩ = some (.map m2) ∧ (w2.alloc (.cells #[.map m1, .map m2] 130)).cell? ⟨w.heap.size + 1, 1, none⟩ = some (.slice ao n cap) from ⟨by go_simp, by go_simp, cell_later hal q2⟩)
  have HT := Lib.hid (And.intro hT hC)
  have HB3 := Lib.hid (show Below w.heap.size w (w2.alloc (.cells #[.map m1, .map m2] 130)) ∧ Below w2.heap.size w2 (w2.alloc (.cells #[.map m1, .map m2] 130)) from ⟨HB2.out.1.trans (hal.mono HB2.out.1.size), hal⟩)
  clear hb hT hC HAcc hal q0 q1 HB1
  go_wp2_with fail
  go_loopw [8, 9, 21] (fun s8 s9 i wr => ∃ (j : Nat), j ≤ n ∧ i = .int .i64 j ∧ Hid (∀ q, q < j → chkAt (soundT ts cs) (atD l q) = 0) ∧ Hid (wr.cell? ⟨w2.heap.size, 0, none⟩ = some (.map m1) ∧ wr.cell? ⟨w2.heap.size, 1, none⟩ = some (.map m2) ∧ wr.cell? ⟨w.heap.size + 1, 1, none⟩ = some (.slice ao n cap)) ∧ Hid (Below w.heap.size w wr ∧ Below w2.heap.size w2 wr ∧ w2.heap.size < wr.heap.size)) (fun _ _ i _ => n - (intOf i).toNat)
  case atStart => exact ⟨0, Nat.zero_le _, rfl, Lib.hid (fun q hq => absurd hq (Nat.not_lt_zero _)), HI, Lib.hid ⟨HB3.out.1, HB3.out.2, by simp⟩⟩
  case round =>
   clear HI HB3 q2
   obtain ⟨j, hj, rfl, HA, HI, HB⟩ := hrel
   obtain ⟨i0, i1, i2⟩ := HI.out
   by_cases hlt : j < n
   ·have hj1 : j + 1 ≤ n := hlt
    have HJ := Lib.hid hlt
    obtain ⟨b, off, e, hbl, hat⟩ := HL.out.2.2.2 (by omega)
    subst e
    obtain ⟨c0, vo, vn, vc, c1, hv⟩ := (hat j hlt)
    have hsm := HF.out.few.small _ (at_mem l j (by omega))
    obtain ⟨a, ha⟩ : ∃ a, atD l j = a := ⟨_, rfl⟩
    rw [ha] at c0 hv hsm
    have c0 := cell_later HB.out.1 c0
    have c1 := cell_later HB.out.1 c1
    have hsz := HB.out.2.2
    have hsz3 : w.heap.size + 1 < wr.heap.size := by omega
    have hal := (Below.refl wr.heap.size wr).alloc (Nat.le_refl _) (.cells #[.string a.1, .slice vo vn vc] 58)
    have hBa := HB.out.1.trans (hal.mono HB.out.1.size)
    have HC := Lib.hid (checkAttr_s m1 m2 (soundT ts cs) a vo vn vc _ (HT.out.1.below (HB.out.2.1.trans (hal.mono HB.out.2.1.size))) (hv.below hBa) hsm.1 hsm.2 (HO.out.below hBa))
    have HBA := Lib.hid hBa
    have HI1 := Lib.hid (And.intro (cell_later hal i0) (And.intro (cell_later hal i1) (cell_later hal i2)))
    have HW1 := Lib.hid (show Below w2.heap.size w2 (wr.alloc (.cells #[.string a.1, .slice vo vn vc] 58)) from HB.out.2.1.trans (hal.mono HB.out.2.1.size))
    have HAa := Lib.hid ha
    obtain ⟨ev, hev⟩ : ∃ e, chkAt (soundT ts cs) a = e := ⟨_, rfl⟩
    rw [hev] at HC
    have HEV := Lib.hid hev
    have d1 : (j : Int) < (n : Int) := by omega
    clear hal hBa hv ha hev
    go_wp2_with fail
    refine HC.out.mono ?_
    rintro e w3 ⟨rfl, hb⟩
    have HI3 := Lib.hid (And.intro (cell_later hb HI1.out.1) (And.intro (cell_later hb HI1.out.2.1) (cell_later hb HI1.out.2.2)))
    have HB3 := Lib.hid (show Below w.heap.size w w3 ∧ Below w2.heap.size w2 w3 ∧ w2.heap.size < w3.heap.size from ⟨HBA.out.trans (hb.mono HBA.out.size), HW1.out.trans (hb.mono HW1.out.size), by have := hb.size; simp at this; omega⟩)
    clear hb HC i0 i1 i2 c0 c1 HI1 HBA HW1
    by_cases he : ev = 0
    ·subst he
     go_wp2_with fail
     go_roundw
     case rel =>
      refine ⟨j + 1, HJ.out, by go_num, Lib.hid fun q hq => ?_, HI3, HB3⟩
      rcases Nat.lt_or_ge q j with h | h
      ·exact HA.out q h
      ·obtain rfl : q = j := by omega
       rw [HAa.out]; exact HEV.out
     case measure => have hJ := HJ.out; simp [intOf]; omega
    ·have hfe : firstE (fun j => chkAt (soundT ts cs) (atD l j)) l.length = ev := by
      rw [firstE_hit (k := j) HA.out (by show chkAt (soundT ts cs) (atD l j) ≠ 0; rw [HAa.out, HEV.out]; exact he) (by omega)]
      show chkAt (soundT ts cs) (atD l j) = ev
      rw [HAa.out]; exact HEV.out
     have HE2 := Lib.hid (show R = ev from HE1.out.trans (by rw [hfe, if_pos he]))
     clear hfe
     go_wp2_with fail
     go_ret
     exact ⟨by rw [HE2.out]; rfl, HB3.out.1⟩
   ·obtain rfl : j = n := by omega
    have d1 : ¬ (j : Int) < (j : Int) := by omega
    have hfe : firstE (fun j => chkAt (soundT ts cs) (atD l j)) l.length = 0 := firstE_zero (fun q hq => HA.out q (by omega))
    have HE2 := Lib.hid (show R = if fitsB (soundC ts cs) l = true then 0 else 9 from HE1.out.trans (by rw [hfe, if_neg (by simp)]))
    obtain ⟨fb, hfb⟩ : ∃ b, fitsB (soundC ts cs) l = b := ⟨_, rfl⟩
    have HC := Lib.hid (fits_s m1 m2 w2 (soundC ts cs) ao j cap l _ HB.out.2.1 (HT.out.2.below HB.out.2.1) (sound_soundC ts cs) (Nat.le_trans (soundC_len ts cs) (by decide)) HZ.out (fewC_sound ts cs) (HL.out.below HB.out.1) HF.out.few HF.out.vals HF.out.names)
    rw [hfb] at HE2 HC
    clear hfe hfb
    go_wp2_with fail
    refine HC.out.mono ?_
    rintro e w3 ⟨rfl, hb⟩
    have HB3 := Lib.hid (HB.out.1.trans (hb.mono HB.out.1.size))
    clear hb HC i0 i1 i2
    cases fb
    ·have HE3 := Lib.hid (show R = 9 from HE2.out.trans (by simp))
     go_wp2_with fail
     go_ret
     exact ⟨by rw [HE3.out]; rfl, HB3.out⟩
    ·have HE3 := Lib.hid (show R = 0 from HE2.out.trans (by simp))
     go_wp2_with fail
     go_ret
     exact ⟨by rw [HE3.out]; rfl, HB3.out⟩
 ·have HE1 := Lib.hid (show R = ce from HE.out.trans (if_pos hc))
  go_wp2_with fail
  go_ret
  exact ⟨by rw [HE1.out]; rfl, HB1.out.1⟩
end Go.Proofs.YtmmdaegdkikkpaaGreatDoor
end

section
set_option maxRecDepth 100000
namespace Go.Proofs.YtmmdaegdkikkpaaGreatDoor
open Go.RowKit Go.PlainAid
structure AtS (a : At) : Prop where
 nm : a.1.size ≤ 300
 len : a.2.length ≤ 20
 each : ∀ v ∈ a.2, v.size ≤ 300
structure LightE (l : List At) : Prop where
 len : l.length ≤ 40
 each : ∀ a ∈ l, AtS a
theorem LightE.small {l : List At} (h : LightE l) : SmallA l := fun a ha => by
 have k := h.each a ha
 have k1 := k.nm
 exact ⟨by omega, fun v hv => by have := k.each v hv; omega⟩
theorem sumV_le : ∀ {l : List At}, (∀ a ∈ l, a.2.length ≤ 20) → sumV l ≤ l.length * 20
 | [], _ => by simp [sumV]
 | a :: l, h => by
  have h1 := h a (by simp)
  have h2 := sumV_le (l := l) (fun x hx => h x (by simp [hx]))
  rw [sumV_cons, List.length_cons]; omega
theorem LightE.few {l : List At} (h : LightE l) : Few l :=
 ⟨h.small, by have h1 := sumV_le (fun a ha => (h.each a ha).len); have h2 := h.len; omega, by have := h.len; omega⟩
theorem small_dec {l : List ByteArray} (h : l.all (fun v => decide (v.size ≤ 1000)) = true) : SmallS l := fun v hv => by
 have := List.all_eq_true.1 h v hv
 have := of_decide_eq_true this
 omega
theorem smallA_dec {l : List At} (h : l.all (fun a => decide (a.1.size ≤ 1000) && a.2.all (fun v => decide (v.size ≤ 1000))) = true) : SmallA l := fun a ha => by
 have := List.all_eq_true.1 h a ha
 rw [Bool.and_eq_true] at this
 exact ⟨by have := of_decide_eq_true this.1; omega, small_dec this.2⟩
theorem ts_kb {W : World} {b : Nat} {T : List Tr} (h : Kb W b (.cells (tcells T).toArray 58)) (hl : T.length ≤ maxLen) : TsAt W (some ⟨b, 0, none⟩) T.length T.length T :=
 ⟨rfl, Nat.le_refl _, hl, fun _ => ⟨b, 0, rfl, h.big, fun j u hj => by
  rw [Nat.zero_add]
  refine h.cell ?_
  rw [List.getElem?_toArray]; exact hj⟩⟩
end Go.Proofs.YtmmdaegdkikkpaaGreatDoor
end

section
set_option maxRecDepth 100000
namespace Go.Proofs.YtmmdaegdkikkpaaGreatDoor
open Go.ChangeShapes Go.WideShapes Go.ChangeAt Go.RowKit
theorem max_ok {W : World} (h : W.ShapedOpen Tryz.prog) : MaxOk W :=
 cell_of_shapedOpen_int (zero := #[.int .i64 0]) (t := 3) h (of_decide_eq_true (by kernel_rfl)) (by kernel_rfl) rfl (by kernel_rfl) (by kernel_rfl) Tryz.underlying3
theorem witness_row {H : Type} {enc : TypeId × Value → H} {C : Checked} {os : Os} {f : FuncId} {fn : Func} {s : OpenSpec} {conds : List PathCond} {apart : Bool} {laid : List (String × DataW Unit)} (modest : Bool) (w0 : World) (args : Array Value) (hos : w0.os = os)
  (hsh : (w0.forCall (fun _ _ => 0) ⟨#[], args, []⟩).Shaped C.prog)
  (hok : Input.okWideB C.prog (w0.forCall (fun _ _ => 0) ⟨#[], args, []⟩) f ⟨#[], args, []⟩ = true)
  (hrow : s.preRow enc C.prog fn conds apart laid (w0.forCall (fun _ _ => 0) ⟨#[], args, []⟩).memory args) :
  ∃ (w : World) (tape : Tape) (i : Input), w.os = os ∧ (w.forCall tape i).Shaped C.prog ∧ i.vars = [] ∧ Input.okWide C.prog (w.forCall tape i) .any w.heap.size f i ∧
   s.preRow enc C.prog fn conds apart laid (w.forCall tape i).memory i.args ∧ ({ modest := modest } : Assume).holds C.prog (lone (Frame.enter C.prog f i.args .normal) [] (w.forCall tape i)) :=
 ⟨w0, fun _ _ => 0, ⟨#[], args, []⟩, hos, hsh, (Input.okWide_of_okWideB (base := 0) hok).1, (Input.okWide_of_okWideB hok).2, hrow, by
  simp only [Assume.holds]
  exact ⟨by simp, by simp, fun _ => Modest.zero, by simp, by simp⟩⟩
theorem star : "*" ++ "errors.errorString" = "*errors.errorString" := by decide
theorem tp_row (u : TypeId) (h : Tryz.prog.typeName? 3 u = some "*errors.errorString") : u = 279 :=
 typeName_ptr_named (nm := "errors.errorString") (by rw [star]; kernel_rfl) (by kernel_rfl) (by decide) u (by rw [star]; exact h)
end Go.Proofs.YtmmdaegdkikkpaaGreatDoor
end

section
set_option maxRecDepth 100000
namespace Go.Proofs.YtmmdaegdkikkpaaGreatDoor
open Go.ChangeShapes Go.WideShapes Go.ChangeAt Go.RowKit Go.PlainAid
theorem trod_attrsR {H : Type} {enc : TypeId × Value → H} {W : World} {v : Value} {y : DataW H × List MemPlace} {fuel : Nat}
  (hf : DataW.trod enc Tryz.prog W 0 (fun _ => true) true fuel 35 [v] = some y) (hz : ∀ n ∈ y.1.weights Tryz.prog 35, n ≤ reachBytes) : ∃ ao n cap l, v = .slice ao n cap ∧ AttrsAt W ao n cap l ∧ RA l := by
 rcases Go.Deep.open_slice_pairs Tryz.underlying35 Tryz.underlying58 cells_attr rfl rfl (by kernel_rfl) (by kernel_rfl) hf with ⟨hcs, hx⟩ | ⟨a, len', cap', m, n, V0, V1, D0, D1, P0, P1, hcs, _, hl, hm, hmm, hx, hcell⟩
 ·simp only [List.cons.injEq, and_true] at hcs
  exact ⟨none, 0, 0, [], hcs, ⟨rfl, Nat.le_refl _, by unfold maxLen; omega, fun h => absurd h (by omega)⟩, fun a ha => (List.not_mem_nil ha).elim⟩
 ·simp only [List.cons.injEq, and_true] at hcs
  subst hcs
  simp only [if_true] at hmm
  rw [hmm] at hcell
  by_cases hn : 0 < len'
  ·obtain ⟨b, off, spot⟩ := a
   have h1 := (hcell 0 (by omega)).1
   have hspot : spot = none := by simpa [Addr.add] using World.cell?_spot h1
   subst hspot
   have hb : b < W.heap.size := by
    rw [add_plain] at h1
    exact World.block_lt_of_cell? W _ h1
   have hd : y.1 = .slice ((List.range len').map fun i => .agg [D0 i, D1 i]) ((List.range (m - len')).map fun j => .agg [D0 (len' + j), D1 (len' + j)]) := congrArg Prod.fst hx
   obtain ⟨l, hpl, hps, hq⟩ := choose_attrsR (w := W) (b := b) (off := off) (len := len') (Q := fun a => a.1.size ≤ 140737488355328 ∧ RS a.2) (fun i hi => by
    obtain ⟨c0, c1, t0, t1⟩ := hcell i (by omega)
    rw [add_plain] at c0 c1
    have hw : ∀ n, n ∈ (DataW.agg [D0 i, D1 i]).weights Tryz.prog 58 → n ≤ reachBytes := fun n hn => hz n (by
     rw [hd]
     exact slice_mem Tryz.underlying35 (List.mem_map.2 ⟨i, List.mem_range.2 hi, rfl⟩) hn)
    have hw0 : ∀ n, n ∈ (D0 i).weights Tryz.prog 9 → n ≤ reachBytes := fun n hn => hw n (by
     simp only [DataW.weights, Tryz.underlying58, DataW.weightsEach, List.map_cons, List.map_nil, List.mem_append]
     exact .inl hn)
    have hw1 : ∀ n, n ∈ (D1 i).weights Tryz.prog 55 → n ≤ reachBytes := fun n hn => hw n (by
     simp only [DataW.weights, Tryz.underlying58, DataW.weightsEach, List.map_cons, List.map_nil, List.mem_append]
     exact .inr (.inl hn))
    obtain ⟨s0, e0, ed, _⟩ := DataW.trod_string Tryz.underlying9 t0
    simp only [List.cons.injEq, and_true] at e0
    have ed0 : D0 i = .lit (.string s0.data.toList) := congrArg Prod.fst ed
    obtain ⟨aj, nj, cj, ps, e1, hs, hr⟩ := trod_strsR t1 hw1
    rw [e0] at c0
    rw [e1, ← Nat.add_assoc] at c1
    refine ⟨(s0, ps), ⟨c0, aj, nj, cj, c1, hs⟩, ?_, hr⟩
    rw [ed0] at hw0
    refine reach_le (hw0 _ ?_)
    simp only [DataW.weights, List.mem_singleton]
    exact (str_len s0).symm)
   exact ⟨_, len', cap', l, rfl, ⟨hpl, hl, hm, fun _ => ⟨b, off, rfl, hb, hps⟩⟩, hq⟩
  ·exact ⟨_, len', cap', [], rfl, ⟨by simp; omega, hl, hm, fun h => absurd h hn⟩, fun a ha => (List.not_mem_nil ha).elim⟩
theorem open_entryR {H : Type} {enc : TypeId × Value → H} {W : World} {base : Nat} {v : Value} {d : DataW H} {p : List MemPlace} (hval : Value.okWide Tryz.prog W .any base 37 v)
  (h0 : DataW.Trod enc Tryz.prog W 0 (fun _ => true) true 37 v d p) (hz : ∀ n ∈ d.weights Tryz.prog 37, n ≤ reachBytes) :
  ∃ en ao n cap l, v = .agg #[.string en, .slice ao n cap] ∧ en.size ≤ 140737488355328 ∧ AttrsAt W ao n cap l ∧ RA l := by
 obtain ⟨v0, v1, y0, y1, n, rfl, rfl, _, h1, h2⟩ := Go.Joins.open_agg2 Tryz.underlying37 (by kernel_rfl) (by kernel_rfl) hval h0
 simp only [DataW.weights, Tryz.underlying37, DataW.weightsEach, List.map_cons, List.map_nil, List.mem_append] at hz
 obtain ⟨s0, rfl, z0⟩ := trod_strR h1 fun n hn => hz n (.inl hn)
 obtain ⟨ao, m, cap, l, rfl, hl, rl⟩ := trod_attrsR h2 fun n hn => hz n (.inr (.inl hn))
 exact ⟨s0, ao, m, cap, l, rfl, z0, hl, rl⟩
end Go.Proofs.YtmmdaegdkikkpaaGreatDoor
end

section
set_option maxRecDepth 100000
namespace Go.Proofs.YtmmdaegdkikkpaaGreatDoor
open Go.RowKit Go.PlainAid Go.Maps Go.ChangeMaps
theorem insS_in {a : List ByteArray} (h : Asc a) {x : ByteArray} (hx : x ∈ a) : insS a x = a := asc_ext (insS_asc h) h fun y => by
 rw [insS_mem]
 exact ⟨fun k => k.elim id fun e => e ▸ hx, .inl⟩
theorem fold_full : ∀ (l a : List ByteArray), Asc a → (l.foldl insS a).length = a.length + l.length → l.Nodup
 | [], _, _, _ => List.Pairwise.nil
 | x :: l, a, h, e => by
  have key : ∀ (l a : List ByteArray), Asc a → (l.foldl insS a).length = a.length + l.length → ∀ y ∈ l, y ∉ a := by
   intro l
   induction l with
   | nil => intro _ _ _ y hy; cases hy
   | cons x l ih =>
    intro a h e y hy hya
    have h1 := foldl_len l (insS a x)
    have h2 := insS_len a x
    rw [List.foldl_cons, List.length_cons] at e
    rcases List.mem_cons.1 hy with rfl | hy
    ·rw [insS_in h hya] at e h1
     omega
    ·exact ih (insS a x) (insS_asc h) (by omega) y hy (insS_mem.2 (.inl hya))
  have h1 := foldl_len l (insS a x)
  have h2 := insS_len a x
  rw [List.foldl_cons, List.length_cons] at e
  have e2 : (l.foldl insS (insS a x)).length = (insS a x).length + l.length := by omega
  exact List.nodup_cons.2 ⟨fun hx => key l _ (insS_asc h) e2 x hx (insS_mem.2 (.inr rfl)), fold_full l _ (insS_asc h) e2⟩
theorem sortU_full {l : List ByteArray} (h : (sortU l).length = l.length) : l.Nodup := fold_full l [] List.Pairwise.nil (by simpa [sortU] using h)
theorem sortU_less {l : List ByteArray} (h : ¬ l.Nodup) : (sortU l).length < l.length := by
 have h1 := sortU_len l
 rcases Nat.lt_or_ge (sortU l).length l.length with k | k
 ·exact k
 ·exact absurd (sortU_full (Nat.le_antisymm h1 k)) h
theorem sortU_add (ks : List ByteArray) (k : ByteArray) : (sortU (ks ++ [k])).length = if memB ks k = true then (sortU ks).length else (sortU ks).length + 1 := by
 rw [sortU_snoc]
 by_cases h : memB ks k = true
 ·rw [if_pos h, insS_in (sortU_asc ks) (sortU_mem.2 (memB_iff.1 h))]
 ·rw [if_neg h, insS_len_new (sortU_asc ks) fun hx => h (memB_iff.2 (sortU_mem.1 hx))]
structure SetZ (w : World) (b n : Nat) (D : DataW Unit) (ks : List ByteArray) : Prop where
 map : w.ownsMap Tryz.prog 9 (plainElem Tryz.prog 4) b n D
 has : ∀ k, Maps.has D (klit k) = memB ks k
 siz : Maps.size D = (sortU ks).length
theorem setZ_made (w : World) : SetZ (w.alloc (.map #[] 0)) w.heap.size 0 (.map []) [] where
 map := World.ownsMap_made w _ _ _
 has k := rfl
 siz := rfl
theorem SetZ.lt {w : World} {b n : Nat} {D : DataW Unit} {ks : List ByteArray} (h : SetZ w b n D ks) : b < w.heap.size := h.map.lt
theorem SetZ.kept {w w' : World} {b n : Nat} {D : DataW Unit} {ks : List ByteArray} {row : Option Nat} (G : SetZ w b n D ks) (hg : w.grownBy w' row) (hne : some b ≠ row) : SetZ w' b n D ks := ⟨G.map.kept hg hne, G.has, G.siz⟩
theorem SetZ.below {w w' : World} {b n B : Nat} {D : DataW Unit} {ks : List ByteArray} (G : SetZ w b n D ks) (hb : Below B w w') (hB : b < B) : SetZ w' b n D ks := by
 obtain ⟨⟨es, clock, he, h1, h2⟩, h3, h4⟩ := G
 exact ⟨⟨es, clock, by rw [hb.block b hB]; exact he, h1, h2⟩, h3, h4⟩
theorem SetZ.store {w : World} {b n : Nat} {D : DataW Unit} {ks : List ByteArray} (G : SetZ w b n D ks) (k : ByteArray) (hk : k.size ≤ maxLen) (hn : n < maxLen) :
  ∃ w', (Instr.mapUpdate 150 (.map (some b)) (.string k) (.bool true)).run Tryz.prog w = .ok () w' ∧ SetZ w' b (n + 1) (D.put (klit k) (.lit (.bool true))) (ks ++ [k]) ∧ w.grownBy w' (some b) := by
 obtain ⟨w', hrun, hm, hg⟩ := G.map.update (t := 150) (e := 4) (string_keyed Tryz.underlying9) Tryz.underlying150 hn (klit_key k hk) (plainElem_bool Tryz.underlying4 true)
 refine ⟨w', hrun, ⟨hm, fun j => ?_, ?_⟩, hg⟩
 ·rw [memB_snoc]
  by_cases e : k = j
  ·subst e
   rw [has_put_same G.map.isMap (by unfold klit; trivial)]; simp
  ·rw [has_put_other (fun h => e (klit_one h).symm), G.has j]
   simp [e]
 ·rw [size_put (G.map.tidy (string_keyed Tryz.underlying9)), G.has, G.siz, sortU_add]
end Go.Proofs.YtmmdaegdkikkpaaGreatDoor
end

section
set_option maxRecDepth 100000
namespace Go.Proofs.YtmmdaegdkikkpaaGreatDoor
open Go.RowKit Go.PlainAid
theorem clean_sz {v : ByteArray} (h : cleanB v = true) : v.size ≤ 256 := by
 unfold cleanB at h
 simp only [Bool.and_eq_true, decide_eq_true_eq] at h
 exact h.1.1.1.2
theorem name_sz {v : ByteArray} (h : nameB v = true) : v.size ≤ 64 := by
 unfold nameB at h
 simp only [Bool.and_eq_true, decide_eq_true_eq] at h
 exact h.1.1.2
def fmsL (T : List Ty) (n : ByteArray) (vs : List ByteArray) : List ByteArray := vs.map (nrmV T n)
def fmsE (T : List Ty) (n : ByteArray) (vs : List ByteArray) : Int := firstE (fun j => nrmE T n (partAt vs j)) vs.length
def nvE (T : List Ty) (n : ByteArray) (vs : List ByteArray) : Int := if fmsE T n vs ≠ 0 then fmsE T n vs else if (fmsL T n vs).Nodup then 0 else 7
def nvL (T : List Ty) (n : ByteArray) (vs : List ByteArray) : List ByteArray := if nvE T n vs = 0 then fmsL T n vs else []
theorem fms_len (T : List Ty) (n : ByteArray) (vs : List ByteArray) : (fmsL T n vs).length = vs.length := by unfold fmsL; exact List.length_map _
theorem fms_take (T : List Ty) (n : ByteArray) (vs : List ByteArray) (k : Nat) (h : k < vs.length) : fmsL T n (vs.take (k + 1)) = fmsL T n (vs.take k) ++ [nrmV T n (partAt vs k)] := by
 unfold fmsL
 rw [take_snoc vs k h, List.map_append]; rfl
theorem part_get (l : List ByteArray) (j : Nat) (h : j < l.length) : partAt l j = l[j] := by
 unfold partAt
 rw [List.getD_eq_getElem?_getD, List.getElem?_eq_getElem h]; rfl
theorem nrm_clean {T : List Ty} {n v : ByteArray} (h : nrmE T n v = 0) : cleanB (nrmV T n v) = true := by
 unfold nrmE at h
 unfold nrmV
 cases e : tyOf T n with
 | none => rw [e] at h; cases h
 | some t =>
  rw [e] at h
  simp only at h ⊢
  unfold normE at h
  cases f : normS t.syn v with
  | none => rw [f] at h; cases h
  | some g =>
   rw [Option.getD_some]
   unfold normS at f
   cases k : formS t.syn v with
   | none => rw [k] at f; cases f
   | some y =>
    rw [k] at f
    simp only [Option.bind_some] at f
    split at f
    ·rename_i c
     rw [← Option.some.inj f]; exact c.2
    ·cases f
theorem nrm_sz {T : List Ty} {n v : ByteArray} (h : nrmE T n v = 0) : (nrmV T n v).size ≤ 256 := clean_sz (nrm_clean h)
theorem fms_all {T : List Ty} {n : ByteArray} {vs : List ByteArray} (h : fmsE T n vs = 0) : ∀ v ∈ vs, nrmE T n v = 0 := fun v hv => by
 obtain ⟨j, hj, rfl⟩ := List.getElem_of_mem hv
 have h1 := firstE_all h j hj
 rwa [part_get vs j hj] at h1
/-! ### an entry's attributes -/
def nmE (T : List Ty) (L : List At) : Int := firstE (fun j => nvE T (atD L j).1 (atD L j).2) L.length
def nmL (T : List Ty) (L : List At) : List At := L.map fun a => (a.1, sortU (fmsL T a.1 a.2))
theorem nm_len (T : List Ty) (L : List At) : (nmL T L).length = L.length := by unfold nmL; exact List.length_map _
theorem nm_NF {T : List Ty} {L : List At} (h : NF L) : NF (nmL T L) where
 asc := by
  unfold nmL
  rw [List.map_map]
  exact h.asc
 low a ha := by
  obtain ⟨b, hb, rfl⟩ := List.mem_map.1 ha
  exact h.low b hb
 vasc a ha := by
  obtain ⟨b, hb, rfl⟩ := List.mem_map.1 ha
  exact sortU_asc _
 ne a ha := by
  obtain ⟨b, hb, rfl⟩ := List.mem_map.1 ha
  intro e
  have := sortU_nil.1 e
  exact h.ne b hb (List.map_eq_nil_iff.1 this)
theorem nf_atD (l : List At) (j : Nat) (h : j < (nf l).length) : atD (nf l) j = (partAt (names l) j, vals l (partAt (names l) j)) := by
 have hj : j < (names l).length := by rw [← nf_names, List.length_map]; exact h
 unfold atD nf
 rw [List.getD_eq_getElem?_getD, List.getElem?_map, List.getElem?_eq_getElem hj, part_get _ _ hj]; rfl
theorem nf_lenN (l : List At) : (nf l).length = (names l).length := by rw [← nf_names, List.length_map]
theorem nm_all {T : List Ty} {L : List At} (h : nmE T L = 0) : ∀ a ∈ L, nvE T a.1 a.2 = 0 := fun a ha => by
 obtain ⟨j, hj, rfl⟩ := mem_at ha
 exact firstE_all h j hj
theorem nv_fms {T : List Ty} {n : ByteArray} {vs : List ByteArray} (h : nvE T n vs = 0) : fmsE T n vs = 0 ∧ (fmsL T n vs).Nodup := by
 unfold nvE at h
 by_cases c : fmsE T n vs = 0
 ·rw [if_neg (by simp [c])] at h
  by_cases d : (fmsL T n vs).Nodup
  ·exact ⟨c, d⟩
  ·rw [if_neg d] at h; cases h
 ·rw [if_pos c] at h; exact absurd h c
theorem fms_clean {T : List Ty} {n : ByteArray} {vs : List ByteArray} (h : fmsE T n vs = 0) : ∀ v ∈ fmsL T n vs, cleanB v = true := fun v hv => by
 obtain ⟨x, hx, rfl⟩ := List.mem_map.1 hv
 exact nrm_clean (fms_all h x hx)
theorem nm_chk {T : List Ty} {l : List At} (h : chkA l = 0) (hE : nmE T (nf l) = 0) : chkA (nmL T (nf l)) = 0 := by
 have h1 := chk_ok (nf_chk h)
 refine ok_chk (nm_NF (nf_NF l)) (by rw [nm_len]; exact h1.len) fun a ha => ?_
 obtain ⟨b, hb, rfl⟩ := List.mem_map.1 ha
 have k := nv_fms (nm_all hE b hb)
 refine ⟨(h1.each b hb).1, ?_, fun v hv => fms_clean k.1 v (sortU_mem.1 hv)⟩
 have := sortU_len (fmsL T b.1 b.2)
 rw [fms_len] at this
 have := (h1.each b hb).2.1
 simp only
 omega
end Go.Proofs.YtmmdaegdkikkpaaGreatDoor
end
