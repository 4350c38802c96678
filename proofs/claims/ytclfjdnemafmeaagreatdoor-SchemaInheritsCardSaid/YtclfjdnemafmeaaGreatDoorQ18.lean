/-
  Texts of the schema layer and of those beneath it, joined: SchMst, ShelfS, SchWrd, SchCln, SchTyF. Conditions stand at each contract.
-/
import Derived.Shelf.Strings.Builder1
import Derived.Shelf.Strings.OnBuilder
import Derived.Shelf.Strings.Split
import Derived.Ground.SlgnProg
import Derived.Ground.SlgmProg
import Derived.StillTailTactics
import Derived.Test.YtclfjdnemafmeaaGreatDoorProg
import Derived.Test.YtclfjdnemafmeaaGreatDoorQ01
import Derived.Test.YtclfjdnemafmeaaGreatDoorQ04
import Derived.Test.YtclfjdnemafmeaaGreatDoorQ17
set_option linter.unusedVariables false
set_option linter.unusedSimpArgs false
set_option linter.unnecessarySimpa false

section
/-
  Contracts of the table's must and may. Condition: names of at most 1000000000 bytes, lists of at most 64 names.
-/
set_option maxRecDepth 100000
namespace Go.Proofs.YtclfjdnemafmeaaGreatDoor
open Go.RowKit Go.PlainAid
/-- the lists of the classes are short -/
def FewC (cs : List Cl) : Prop := ∀ c ∈ cs, c.must.length ≤ 64 ∧ c.may.length ≤ 64
theorem fewC_sound (ts : List Ty) (cs : List Cl) : FewC (soundC ts cs) := by
  intro c hc
  have hs : chkS ts cs = 0 := by
    unfold soundC at hc
    split at hc
    · assumption
    · cases hc
  have he : soundC ts cs = cs := if_pos hs
  rw [he] at hc
  obtain ⟨k, hk, rfl⟩ := mem_cl hc
  have h := hs
  unfold chkS at h
  split at h
  · cases h
  · split at h
    · exact absurd h ‹_›
    · split at h
      · exact absurd h ‹_›
      · rename_i h3
        have h0 := firstE_none (Classical.not_not.1 h3) k hk
        unfold errC at h0
        split at h0
        · cases h0
        · split at h0
          · cases h0
          · split at h0
            · cases h0
            · split at h0
              · cases h0
              · rename_i h4; omega
theorem smC_sound {ts : List Ty} {cs : List Cl} (h : SmC cs) : SmC (soundC ts cs) := by
  unfold soundC
  split
  · exact h
  · intro c hc; cases hc
def mustL (l : List Cl) : List ByteArray := l.flatMap fun c => c.must
def mayL (l : List Cl) : List ByteArray := l.flatMap fun c => c.may
theorem mustL_snoc (l : List Cl) (c : Cl) : mustL (l ++ [c]) = mustL l ++ c.must := by simp [mustL]
theorem mayL_snoc (l : List Cl) (c : Cl) : mayL (l ++ [c]) = mayL l ++ c.may := by simp [mayL]
theorem flat_few {f : Cl → List ByteArray} : ∀ {l : List Cl}, (∀ c ∈ l, (f c).length ≤ 64) → (l.flatMap f).length ≤ l.length * 64
  | [], _ => Nat.zero_le _
  | c :: l, h => by
    rw [List.flatMap_cons, List.length_append, List.length_cons]
    have h1 := h c (List.mem_cons_self ..)
    have h2 := flat_few (f := f) (l := l) (fun d hd => h d (List.mem_cons_of_mem _ hd))
    omega
/-- the cells of the class j of a slice of the call's own -/
theorem cls_at {w : World} {base n : Nat} {g cap : Nat} {l : List Cv} (h : w.ownsRow base 57 4 (.slice (some ⟨g, 0, none⟩) n cap) n (ccells l)) (j : Nat) (hj : j < l.length) :
    w.cell? ⟨g, j * 4, none⟩ = some (.string (l.getD j default).cl.name) ∧ w.cell? ⟨g, j * 4 + 1, none⟩ = some (.string (l.getD j default).cl.super) ∧ w.cell? ⟨g, j * 4 + 2, none⟩ = some (l.getD j default).hm ∧ w.cell? ⟨g, j * 4 + 3, none⟩ = some (l.getD j default).hy := by
  have key : ∀ i u, i < 4 → (cvC (l.getD j default))[i]? = some u → w.cell? ⟨g, j * 4 + i, none⟩ = some u := fun i u hi hu => by
    have := h.cells (g := g) rfl (j * 4 + i) u ((flat_at cvC 4 (fun _ => rfl) default l j i hj hi).trans hu)
    rwa [Go.WideShapes.add_plain, Nat.zero_add] at this
  exact ⟨key 0 _ (by omega) rfl, key 1 _ (by omega) rfl, key 2 _ (by omega) rfl, key 3 _ (by omega) rfl⟩
theorem cv_take (l : List Cv) (k : Nat) (h : k < l.length) : l.take (k + 1) = l.take k ++ [l.getD k default] := by
  rw [List.getD_eq_getElem?_getD, List.getElem?_eq_getElem h]; exact List.take_succ_eq_append_getElem h
theorem cv_mem (l : List Cv) (k : Nat) (h : k < l.length) : l.getD k default ∈ l := by
  rw [List.getD_eq_getElem?_getD, List.getElem?_eq_getElem h]; exact List.getElem_mem h
theorem own_loc {w : World} {base n size : Nat} {e : TypeId} {v : Value} {xs : List Value} (h : w.ownsRow base e size v n xs) (hn : 0 < n) : ∃ g cap, v = .slice (some ⟨g, 0, none⟩) n cap ∧ base ≤ g ∧ g < w.heap.size := by
  rcases h.2 with ⟨rfl, h0⟩ | ⟨g, cap, cur, rfl, _⟩
  · omega
  · exact ⟨g, cap, rfl, h.lt g rfl⟩
theorem scells_app (a b : List ByteArray) : scells (a ++ b) = scells a ++ scells b := List.map_append
set_option maxHeartbeats 8000000 in
theorem must_s (mt mc : Option Nat) (w0 : World) (cs : List Cl) (n : ByteArray) (w : World) (h0 : Below w0.heap.size w0 w) (h : CMap w0 w mc cs) (hS : SoundC cs) (hL : cs.length ≤ 1000) (hZ : SmC cs) (hF : FewC cs) (hn : n.size ≤ 1000000000) :
    Calls Tryz.prog 51 #[.agg #[.map mt, .map mc], .string n] w fun e w' => ∃ u : Value, e = .returned u ∧ w'.ownsRow (w.heap.size + 1) 9 1 u (mustS cs n).length (scells (mustS cs n)) ∧ Below w.heap.size w w' := by
  have HZ := Lib.hid hZ; have HF := Lib.hid hF; have H0 := Lib.hid h0
  have hB0 : Below w.heap.size w (w.alloc (.cells #[.map mt, .map mc] 68)) := (Below.refl _ _).alloc (Nat.le_refl _) _
  have HB0 := Lib.hid hB0
  have HC := Lib.hid (lineage_s mt mc w0 cs n _ (h.below hB0) hS hL hZ hn)
  have hlen := lineS_small hS n
  have HS := Lib.hid hS
  clear h hS hZ hF h0 hB0
  go_enter Tryz.func51, Tryz.ntmps51
  go_wp2_with fail
  refine HC.out.mono ?_
  rintro e w1 ⟨u, l, rfl, hl, hok, hown, hb⟩
  have HM := Lib.hid (show ∀ c ∈ l, c.cl ∈ cs from fun c hc => lineS_mem (n := n) (by rw [← hl]; exact List.mem_map_of_mem hc))
  have hll : l.length ≤ 1000 := by rw [← ccls_len, hl]; omega
  have HE := Lib.hid (show mustS cs n = sortU ((mustL (ccls l)).map lowS) by rw [mustS_eq, hl]; rfl)
  have HOK := Lib.hid hok
  have HB1 := Lib.hid (show Below w.heap.size w w1 ∧ w.heap.size + 1 ≤ w1.heap.size from ⟨HB0.out.trans (hb.mono (by simp)), by have := hb.size; simpa using this⟩)
  have HOW := Lib.hid hown
  obtain ⟨ao, cap, rfl⟩ := own_slc hown
  clear hb hok hl hown HB0 HC hlen HS
  go_wp2_with fail
  go_loopw [5, 7, 12] (fun s5 s7 i wr => ∃ (k : Nat), k ≤ l.length ∧ i = .int .i64 k ∧ Hid (wr.ownsRow w1.heap.size 9 1 s5 (mustL (ccls (l.take k))).length (scells (mustL (ccls (l.take k))))) ∧ Hid (Below w1.heap.size w1 wr)) (fun _ _ i _ => l.length - (intOf i).toNat)
  case atStart => exact ⟨0, Nat.zero_le _, rfl, Lib.hid (World.ownsRow_nil _ _ _ _), Lib.hid (Below.refl _ _)⟩
  case round =>
    obtain ⟨k, hk, rfl, HO, HB⟩ := hrel
    by_cases hlt : k < l.length
    · have d1 : (k : Int) < (l.length : Int) := by omega
      obtain ⟨g, cap', e, hg1, hg2⟩ := own_loc HOW.out (by omega)
      simp only [Value.slice.injEq] at e
      obtain ⟨rfl, _, rfl⟩ := e
      obtain ⟨c0, c1, c2, c3⟩ := cls_at HOW.out k hlt
      have hmem := cv_mem l k hlt
      have HT := Lib.hid (show mustL (ccls (l.take (k + 1))) = mustL (ccls (l.take k)) ++ (l.getD k default).cl.must by rw [cv_take l k hlt, ccls_snoc, mustL_snoc])
      have hcm := HM.out _ hmem
      have hfw := (HF.out _ hcm).1
      obtain ⟨hHm, hHy⟩ := HOK.out _ hmem
      have hlen : (mustL (ccls (l.take k))).length ≤ 64000 := by
        have h1 := flat_few (f := fun c => c.must) (l := ccls (l.take k)) (fun c hc => by
          obtain ⟨d, hd, rfl⟩ := List.mem_map.1 hc
          exact (HF.out _ (HM.out d (List.mem_of_mem_take hd))).1)
        have h2 : (ccls (l.take k)).length ≤ 1000 := by rw [ccls_len, List.length_take]; omega
        show ((ccls (l.take k)).flatMap fun c => c.must).length ≤ 64000
        omega
      obtain ⟨d, hd⟩ : ∃ d, l.getD k default = d := ⟨_, rfl⟩
      rw [hd] at c0 c1 c2 c3 HT hfw hHm hHy
      clear hd hmem hcm
      obtain ⟨vo, vn, vc, e1, hv⟩ := hHm
      obtain ⟨uo, un, uc, e2, hu⟩ := hHy
      rw [e1] at c2
      rw [e2] at c3
      clear e1 e2 hu
      have c0 := cell_later HB.out c0
      have c1 := cell_later HB.out c1
      have c2 := cell_later HB.out c2
      have c3 := cell_later HB.out c3
      have hvn := hv.1
      have hal := (Below.refl wr.heap.size wr).alloc (Nat.le_refl _) (.cells #[.string d.cl.name, .string d.cl.super, .slice vo vn vc, .slice uo un uc] 57)
      have HV := Lib.hid (show StrsAt (wr.alloc (.cells #[.string d.cl.name, .string d.cl.super, .slice vo vn vc, .slice uo un uc] 57)) vo vn vc d.cl.must from ((hv.below (H0.out.trans (HB1.out.1.mono H0.out.size))).below (HB.out.trans (hal.mono HB.out.size))))
      have hown1 := HO.out.alloc (.cells #[.string d.cl.name, .string d.cl.super, .slice vo vn vc, .slice uo un uc] 57)
      have hsz1 : w1.heap.size ≤ (wr.alloc (.cells #[.string d.cl.name, .string d.cl.super, .slice vo vn vc, .slice uo un uc] 57)).heap.size := by have := HB.out.size; simp; omega
      have HAL := Lib.hid (HB.out.trans (hal.mono HB.out.size))
      clear hv hal
      go_wp2_with (at_builtin; go_must (refine push_strs (wr.alloc (.cells #[.string d.cl.name, .string d.cl.super, .slice vo vn vc, .slice uo un uc] 57)) hown1 (.tmp 16) (.tmp 18) HV.out ?_ ?_ ?_ ?_ ?_ ?_ ?_; exact rfl; exact rfl; exact rfl; exact rfl; omega; exact hsz1; intro v3 w3 hown3 hg3 hl3))
      have HO3 := Lib.hid hown3
      have HB3 := Lib.hid (HAL.out.grown hg3 hsz1 (fun q e => (hown1.lt q e).1))
      clear hown3 hg3 hl3 hown1
      go_roundw
      case rel =>
        refine ⟨k + 1, by omega, by go_num, Lib.hid ?_, HB3⟩
        rw [HT.out, List.length_append, hvn, scells_app]
        exact HO3.out
      case measure => simp [intOf]; omega
    · obtain rfl : k = l.length := by omega
      have d1 : ¬ (l.length : Int) < (l.length : Int) := by omega
      rw [List.take_length] at HO
      have hlen : (mustL (ccls l)).length ≤ 64000 := by
        have h1 := flat_few (f := fun c => c.must) (l := ccls l) (fun c hc => by
          obtain ⟨d, hd, rfl⟩ := List.mem_map.1 hc
          exact (HF.out _ (HM.out d hd)).1)
        have h2 : (ccls l).length ≤ 1000 := by rw [ccls_len]; omega
        show ((ccls l).flatMap fun c => c.must).length ≤ 64000
        omega
      have HC := Lib.hid (ascendingF_s w1.heap.size _ _ (mustL (ccls l)) wr HO.out rfl (by omega) (fun s hs => by
        obtain ⟨c, hc, hsc⟩ := List.mem_flatMap.1 hs
        obtain ⟨d, hd, rfl⟩ := List.mem_map.1 hc
        exact (HZ.out _ (HM.out d hd)).2.2.1 s hsc) HB.out.size)
      go_wp2_with fail
      refine HC.out.mono ?_
      rintro e w3 ⟨u, rfl, ho, hb⟩
      have HO3 := Lib.hid ho
      have HB3 := Lib.hid (HB.out.trans hb)
      clear ho hb
      go_wp2_with fail
      go_ret
      exact ⟨_, rfl, by rw [HE.out]; exact HO3.out.mono HB1.out.2, HB1.out.1.trans (HB3.out.mono (by have := HB1.out.2; omega))⟩
end Go.Proofs.YtclfjdnemafmeaaGreatDoor
end

section
/-
  DERIVED: THE SHELF's CONTRACTS AT THIS DUMP, IN PLAIN WORDS (tools/lay-plain.mjs out of 'TryzShelfSSrc.lean', which tools/lay-shelf.mjs wrote): THE SAME DECLARATIONS UNDER THE SAME NAMES: 'import', 'namespace', 'open', 'def', 'theorem' AND NOTHING ELSE: no command of the shelf's: FOR A HAND-IN. Each laying: the table of numbers ('.._ren') and one theorem, a field a fact of the dump's own or the kernel's comparison; each contract: ONE APPLICATION.
-/
namespace Go.Proofs
open Go.Shelf
def Tryz.lays170_ren : Go.Shelf.Ren := ⟨fun | 170 => 70 | n => n, fun | 70 => 94 | 3 => 3 | 0 => 0 | 72 => 97 | 37 => 95 | 5 => 5 | n => n, fun | n => n⟩
theorem Tryz.lays170 : Go.Proofs.Lays.n170 Tryz.prog Tryz.lays170_ren := {
  mixed := by kernel_rfl
  f170 := Tryz.func70.trans (congrArg some (by kernel_rfl))
  t0 := Tryz.underlying0
  a0 := Tryz.isAgg0
  z0 := Tryz.sizeOf0
  v0 := Tryz.zeroValue0
  t3 := Tryz.underlying3
  a3 := Tryz.isAgg3
  z3 := Tryz.sizeOf3
  v3 := Tryz.zeroValue3
  t37 := Tryz.underlying95
  a37 := Tryz.isAgg95
  z37 := Tryz.sizeOf95
  v37 := Tryz.zeroValue95
  t70 := Tryz.underlying94
  a70 := Tryz.isAgg94
  z70 := Tryz.sizeOf94
  v70 := Tryz.zeroValue94
  t72 := Tryz.underlying97
  a72 := Tryz.isAgg97
  z72 := Tryz.sizeOf97
  v72 := Tryz.zeroValue97 }
open Go.RowKit in
/-- (*strings.Builder).Len: "Len returns the number of accumulated bytes; b.Len() == len(b.String()).": the world is as it was. (LAID: no walk: one application.) -/
theorem Tryz.Builder_Len (B b : Nat) (bs : List Value) (w : World) (h : Lib.IsBuilder 97 5 B b bs w) :
    Calls Tryz.prog 70 #[.pointer (some ⟨b, 0, none⟩)] w fun e w' => e = .returned (.int .i64 bs.length) ∧ w' = w := Any.Builder_Len Tryz.lays170 B b bs w h
def Tryz.lays156_ren : Go.Shelf.Ren := ⟨fun | 156 => 111 | 165 => 147 | 166 => 67 | 169 => 71 | 240 => 110 | 241 => 173 | 276 => 146 | 277 => 214 | n => n, fun | 31 => 36 | 9 => 9 | 3 => 3 | 4 => 4 | 0 => 0 | 20 => 20 | 72 => 97 | 76 => 100 | 70 => 94 | 37 => 95 | 75 => 99 | 127 => 138 | 164 => 156 | 5 => 5 | 80 => 105 | n => n, fun | n => n⟩
theorem Tryz.lays156 : Go.Proofs.Lays.n156 Tryz.prog Tryz.lays156_ren := {
  mixed := by kernel_rfl
  f156 := Tryz.func111.trans (congrArg some (by kernel_rfl))
  f165 := Tryz.func147.trans (congrArg some (by kernel_rfl))
  f166 := Tryz.func67.trans (congrArg some (by kernel_rfl))
  f169 := Tryz.func71.trans (congrArg some (by kernel_rfl))
  f240 := Tryz.func110.trans (congrArg some (by kernel_rfl))
  f241 := Tryz.func173.trans (congrArg some (by kernel_rfl))
  f276 := Tryz.func146.trans (congrArg some (by kernel_rfl))
  f277 := Tryz.func214.trans (congrArg some (by kernel_rfl))
  t0 := Tryz.underlying0
  a0 := Tryz.isAgg0
  z0 := Tryz.sizeOf0
  v0 := Tryz.zeroValue0
  t3 := Tryz.underlying3
  a3 := Tryz.isAgg3
  z3 := Tryz.sizeOf3
  v3 := Tryz.zeroValue3
  t4 := Tryz.underlying4
  a4 := Tryz.isAgg4
  z4 := Tryz.sizeOf4
  v4 := Tryz.zeroValue4
  t9 := Tryz.underlying9
  a9 := Tryz.isAgg9
  z9 := Tryz.sizeOf9
  v9 := Tryz.zeroValue9
  t20 := Tryz.underlying20
  a20 := Tryz.isAgg20
  z20 := Tryz.sizeOf20
  v20 := Tryz.zeroValue20
  t31 := Tryz.underlying36
  a31 := Tryz.isAgg36
  z31 := Tryz.sizeOf36
  v31 := Tryz.zeroValue36
  t37 := Tryz.underlying95
  a37 := Tryz.isAgg95
  z37 := Tryz.sizeOf95
  v37 := Tryz.zeroValue95
  t70 := Tryz.underlying94
  a70 := Tryz.isAgg94
  z70 := Tryz.sizeOf94
  v70 := Tryz.zeroValue94
  t72 := Tryz.underlying97
  a72 := Tryz.isAgg97
  z72 := Tryz.sizeOf97
  v72 := Tryz.zeroValue97
  t75 := Tryz.underlying99
  a75 := Tryz.isAgg99
  z75 := Tryz.sizeOf99
  v75 := Tryz.zeroValue99
  t76 := Tryz.underlying100
  a76 := Tryz.isAgg100
  z76 := Tryz.sizeOf100
  v76 := Tryz.zeroValue100
  t127 := Tryz.underlying138
  a127 := Tryz.isAgg138
  z127 := Tryz.sizeOf138
  v127 := Tryz.zeroValue138
  t164 := Tryz.underlying156
  a164 := Tryz.isAgg156
  z164 := Tryz.sizeOf156
  v164 := Tryz.zeroValue156 }
theorem Tryz.Builder_Extra_156 : Builder.Extra Tryz.prog Tryz.lays156_ren := {
  sizeBuilder := by kernel_rfl
  liesBuilder := by kernel_rfl
  t5 := Tryz.underlying5
  a5 := Tryz.isAgg5
  z5 := Tryz.sizeOf5
  v5 := Tryz.zeroValue5
  infoByte := by kernel_rfl
  cellsByte := by kernel_rfl
  sizeByte := by kernel_rfl
  neB5 := by decide }
open Go.RowKit in
/-- strings.Join: "Join concatenates the elements of its first argument to create a single string. The separator string sep is placed between elements in the resulting string.": HOWEVER MANY ELEMENTS. Below the heap's end the world is as it was. (LAID: no walk: one application.) -/
theorem Tryz.strings_Join (bk o c : Nat) (xs : List ByteArray) (sep : ByteArray) (w : World) (hcells : ∀ (j : Nat) x, xs[j]? = some x → w.cell? ⟨bk, o + j, none⟩ = some (.string x)) (hbk : bk < w.heap.size) (hN : xs.length ≤ 140737488355328) (hcap : xs.length ≤ c) (hlen : (Lib.join (xs.map (·.data.toList)) sep.data.toList).length ≤ 140737488355328) :
    Calls Tryz.prog 111 #[.slice (some ⟨bk, o, none⟩) xs.length c, .string sep] w fun e w' => e = .returned (.string ⟨(Lib.join (xs.map (·.data.toList)) sep.data.toList).toArray⟩) ∧ Below w.heap.size w w' := Any.strings_Join Tryz.lays156 Tryz.Builder_Extra_156 bk o c xs sep w hcells hbk hN hcap hlen
def Tryz.lays146_ren : Go.Shelf.Ren := ⟨fun | 146 => 114 | 221 => 149 | 268 => 178 | 138 => 179 | 143 => 180 | 195 => 217 | 197 => 218 | 218 => 219 | 219 => 148 | 260 => 237 | 217 => 174 | 225 => 175 | 224 => 176 | 267 => 177 | 266 => 215 | 314 => 216 | n => n, fun | 9 => 9 | 31 => 36 | 3 => 3 | 4 => 4 | 0 => 0 | 105 => 211 | 21 => 21 | 5 => 5 | 46 => 164 | 119 => 239 | 139 => 242 | 138 => 241 | 146 => 208 | 51 => 188 | n => n, fun | 1 => 1 | 3 => 4 | 4 => 5 | n => n⟩
theorem Tryz.lays146 : Go.Proofs.Lays.n146 Tryz.prog Tryz.lays146_ren := {
  mixed := by kernel_rfl
  f138 := Tryz.func179.trans (congrArg some (by kernel_rfl))
  f143 := Tryz.func180.trans (congrArg some (by kernel_rfl))
  f146 := Tryz.func114.trans (congrArg some (by kernel_rfl))
  f195 := Tryz.func217.trans (congrArg some (by kernel_rfl))
  f197 := Tryz.func218.trans (congrArg some (by kernel_rfl))
  f217 := Tryz.func174.trans (congrArg some (by kernel_rfl))
  f218 := Tryz.func219.trans (congrArg some (by kernel_rfl))
  f219 := Tryz.func148.trans (congrArg some (by kernel_rfl))
  f221 := Tryz.func149.trans (congrArg some (by kernel_rfl))
  f224 := Tryz.func176.trans (congrArg some (by kernel_rfl))
  f225 := Tryz.func175.trans (congrArg some (by kernel_rfl))
  f260 := Tryz.func237.trans (congrArg some (by kernel_rfl))
  f266 := Tryz.func215.trans (congrArg some (by kernel_rfl))
  f267 := Tryz.func177.trans (congrArg some (by kernel_rfl))
  f268 := Tryz.func178.trans (congrArg some (by kernel_rfl))
  f314 := Tryz.func216.trans (congrArg some (by kernel_rfl))
  t0 := Tryz.underlying0
  a0 := Tryz.isAgg0
  z0 := Tryz.sizeOf0
  v0 := Tryz.zeroValue0
  t3 := Tryz.underlying3
  a3 := Tryz.isAgg3
  z3 := Tryz.sizeOf3
  v3 := Tryz.zeroValue3
  t4 := Tryz.underlying4
  a4 := Tryz.isAgg4
  z4 := Tryz.sizeOf4
  v4 := Tryz.zeroValue4
  t5 := Tryz.underlying5
  a5 := Tryz.isAgg5
  z5 := Tryz.sizeOf5
  v5 := Tryz.zeroValue5
  t9 := Tryz.underlying9
  a9 := Tryz.isAgg9
  z9 := Tryz.sizeOf9
  v9 := Tryz.zeroValue9
  t21 := Tryz.underlying21
  a21 := Tryz.isAgg21
  z21 := Tryz.sizeOf21
  v21 := Tryz.zeroValue21
  t31 := Tryz.underlying36
  a31 := Tryz.isAgg36
  z31 := Tryz.sizeOf36
  v31 := Tryz.zeroValue36
  t46 := Tryz.underlying164
  a46 := Tryz.isAgg164
  z46 := Tryz.sizeOf164
  v46 := Tryz.zeroValue164
  t51 := Tryz.underlying188
  a51 := Tryz.isAgg188
  z51 := Tryz.sizeOf188
  v51 := Tryz.zeroValue188
  t105 := Tryz.underlying211
  a105 := Tryz.isAgg211
  z105 := Tryz.sizeOf211
  v105 := Tryz.zeroValue211
  t119 := Tryz.underlying239
  a119 := Tryz.isAgg239
  z119 := Tryz.sizeOf239
  t138 := Tryz.underlying241
  a138 := Tryz.isAgg241
  z138 := Tryz.sizeOf241
  v138 := Tryz.zeroValue241
  t139 := Tryz.underlying242
  a139 := Tryz.isAgg242
  z139 := Tryz.sizeOf242
  v139 := Tryz.zeroValue242
  t146 := Tryz.underlying208
  a146 := Tryz.isAgg208
  z146 := Tryz.sizeOf208
  v146 := Tryz.zeroValue208
  g1 := by kernel_rfl
  g3 := by kernel_rfl
  g4 := by kernel_rfl }
open Go.RowKit Go.Lib in
/-- strings.Split. (LAID: no walk: one application.) -/
theorem Tryz.strings_Split (s sep : ByteArray) (m : Int) (w : World) (hs : s.size < 4294967281) (hm : w.cell? ⟨1, 0, none⟩ = some (.int .i64 m)) (h1 : 1 ≤ sep.size) :
    Calls Tryz.prog 114 #[.string s, .string sep] w fun e w' =>
      e = .returned (.slice (some ⟨w.heap.size, 0, none⟩) (Lib.countB s sep + 1) (Lib.countB s sep + 1)) ∧ w' = w.alloc (.cells ((Lib.splitB sep 0 (Lib.countB s sep) s).map Value.string).toArray 9) := Any.strings_Split Tryz.lays146 (by kernel_rfl) s sep m w hs hm h1
end Go.Proofs
end

section
/-
  Contracts of schema's listWord, typeLine and classLine. Condition: names of at most 1000000000 bytes, lists of at most 1000 names; syntaxWords reads as its five words.
-/
set_option maxRecDepth 100000
namespace Go.Proofs.YtclfjdnemafmeaaGreatDoor
open Go.RowKit Go.PlainAid
def joinB (sep : UInt8) (l : List ByteArray) : ByteArray := ⟨(Lib.join (l.map (·.data.toList)) [sep]).toArray⟩
theorem join_le (sep : UInt8) (M : Nat) : ∀ l : List (List UInt8), (∀ x ∈ l, x.length ≤ M) → (Lib.join l [sep]).length ≤ l.length * (M + 1)
  | [], _ => by simp [Lib.join]
  | [x], h => by
    have := h x (List.mem_singleton.2 rfl)
    simp [Lib.join]; omega
  | x :: y :: r, h => by
    have h1 := h x (List.mem_cons_self ..)
    have ih := join_le sep M (y :: r) (fun z hz => h z (List.mem_cons_of_mem _ hz))
    have e : Lib.join (x :: y :: r) [sep] = x ++ [sep] ++ Lib.join (y :: r) [sep] := by simp [Lib.join]
    have e2 : (x :: y :: r).length * (M + 1) = (y :: r).length * (M + 1) + (M + 1) := by rw [List.length_cons, Nat.succ_mul]
    rw [e, List.length_append, List.length_append, e2]
    show x.length + 1 + (Lib.join (y :: r) [sep]).length ≤ _
    omega
theorem joinF_s (sep : UInt8) (ao : Option Addr) (n cap : Nat) (l : List ByteArray) (w : World) (h : StrsAt w ao n cap l) (hn : 0 < n) (hl : n ≤ 1000) (hz : ∀ s ∈ l, s.size ≤ 1000000000) :
    Calls Tryz.prog 111 #[.slice ao n cap, .string ⟨#[sep]⟩] w fun e w' => e = .returned (.string (joinB sep l)) ∧ Below w.heap.size w w' := by
  obtain ⟨h1, h2, h3, h4⟩ := h
  subst h1
  obtain ⟨b, off, rfl, hb, hc⟩ := h4 hn
  refine Tryz.strings_Join b off cap l ⟨#[sep]⟩ w (fun j x hj => ?_) hb (by omega) h2 ?_
  · obtain ⟨hj1, hj2⟩ := List.getElem?_eq_some_iff.1 hj
    have := hc j hj1
    unfold partAt at this
    rw [List.getD_eq_getElem?_getD, List.getElem?_eq_getElem hj1, hj2] at this
    exact this
  · have := join_le sep 1000000000 (l.map (·.data.toList)) (fun x hx => by
      obtain ⟨s, hs, rfl⟩ := List.mem_map.1 hx
      have := hz s hs
      rw [← Lib.size_eq]; exact this)
    rw [List.length_map] at this
    have h5 : l.length * (1000000000 + 1) ≤ 1000 * 1000000001 := Nat.mul_le_mul_right _ hl
    show (Lib.join (l.map (·.data.toList)) [sep]).length ≤ 140737488355328
    omega
theorem joinB_size {sep : UInt8} {l : List ByteArray} (hl : l.length ≤ 1000) (hz : ∀ s ∈ l, s.size ≤ 1000000000) : (joinB sep l).size ≤ 1000000001000 := by
  have := join_le sep 1000000000 (l.map (·.data.toList)) (fun x hx => by
    obtain ⟨s, hs, rfl⟩ := List.mem_map.1 hx
    have := hz s hs
    rw [← Lib.size_eq]; exact this)
  rw [List.length_map] at this
  have h5 : l.length * (1000000000 + 1) ≤ 1000 * 1000000001 := Nat.mul_le_mul_right _ hl
  unfold joinB
  rw [Lib.size_mk]; omega
def listW (l : List ByteArray) : ByteArray := if l.length = 0 then ⟨#[45]⟩ else joinB 44 l
theorem listWord_s (ao : Option Addr) (n cap : Nat) (l : List ByteArray) (w : World) (h : StrsAt w ao n cap l) (hl : n ≤ 1000) (hz : ∀ s ∈ l, s.size ≤ 1000000000) :
    Calls Tryz.prog 112 #[.slice ao n cap] w fun e w' => e = .returned (.string (listW l)) ∧ Below w.heap.size w w' := by
  by_cases hn : n = 0
  · subst hn
    have HE := Lib.hid (show listW l = ⟨#[45]⟩ by unfold listW; rw [h.1]; rfl)
    go_enter Tryz.func112, Tryz.ntmps112
    go_wp2_with fail
    go_ret
    exact ⟨by rw [HE.out]; rfl, Below.refl _ _⟩
  · have HE := Lib.hid (show listW l = joinB 44 l by unfold listW; rw [h.1, if_neg hn])
    have HC := Lib.hid (joinF_s 44 ao n cap l w h (by omega) hl hz)
    have d1 : ((n : Int) == 0) = false := by simp; omega
    clear h
    go_enter Tryz.func112, Tryz.ntmps112
    go_wp2_with fail
    refine HC.out.mono ?_
    rintro e w1 ⟨rfl, hb⟩
    have HB := Lib.hid hb; clear hb
    go_wp2_with fail
    go_ret
    exact ⟨by rw [HE.out]; rfl, HB.out⟩
/-- the words of the syntaxes -/
def synW (x : Int) : ByteArray := if x = 1 then ⟨#[116, 101, 120, 116]⟩ else if x = 2 then ⟨#[101, 120, 97, 99, 116]⟩ else if x = 3 then ⟨#[105, 110, 116]⟩ else if x = 4 then ⟨#[110, 97, 109, 101]⟩ else ⟨#[98, 111, 111, 108]⟩
def SynOk (w : World) : Prop := ∀ k : Nat, k < 5 → w.cell? ⟨0, k, none⟩ = some (.string (synW ((k : Int) + 1)))
theorem SynOk.lt {w : World} (h : SynOk w) : 0 < w.heap.size := by
  have := h 0 (by decide)
  unfold World.cell? at this
  rcases Nat.lt_or_ge 0 w.heap.size with k | k
  · exact k
  · simp [Array.getElem?_eq_none k] at this
theorem SynOk.below {w w' : World} (h : SynOk w) (hb : Below w.heap.size w w') : SynOk w' := fun k hk => cell_later hb (h k hk)
def typeN : ByteArray := ⟨#[116, 121, 112, 101]⟩
def singleN : ByteArray := ⟨#[115, 105, 110, 103, 108, 101]⟩
def typeLn (t : Ty) : ByteArray := joinB 32 ([typeN, t.name, synW t.syn] ++ if t.single then [singleN] else []) ++ ⟨#[10]⟩
theorem own_three (w : World) (x y z : ByteArray) : (w.alloc (.cells #[.string x, .string y, .string z] 9)).ownsRow w.heap.size 9 1 (.slice (some ⟨w.heap.size, 0, none⟩) 3 3) 3 (scells [x, y, z]) :=
  ⟨rfl, .inr ⟨w.heap.size, 3, _, rfl, Nat.le_refl _, heap_alloc_new w _, Nat.le_refl _, by unfold maxLen; omega, rfl, rfl⟩⟩
set_option maxHeartbeats 4000000 in
theorem typeLine_s (t : Ty) (w : World) (hz : t.name.size ≤ 1000000000) (h1 : 1 ≤ t.syn) (h5 : t.syn ≤ 5) (ho : SynOk w) :
    Calls Tryz.prog 68 #[.agg #[.string t.name, .int .i64 t.syn, .bool t.single]] w fun e w' => e = .returned (.string (typeLn t)) ∧ Below w.heap.size w w' := by
  obtain ⟨nm, syn, sg⟩ := t
  simp only at hz h1 h5 ⊢
  obtain ⟨k, hk, rfl⟩ : ∃ k : Nat, k < 5 ∧ syn = (k : Int) + 1 := ⟨(syn - 1).toNat, by omega, by omega⟩
  have hX := (Below.refl w.heap.size w).alloc (Nat.le_refl _) (.cells #[.string nm, .int .i64 ((k : Int) + 1), .bool sg] 32)
  have hcell := (ho.below hX) k hk
  have hlt := ho.lt
  obtain ⟨sw, hsw⟩ : ∃ s, synW ((k : Int) + 1) = s := ⟨_, rfl⟩
  rw [hsw] at hcell
  have HSW := Lib.hid hsw
  have HX := Lib.hid hX
  clear ho hX hsw
  go_enter Tryz.func68, Tryz.ntmps68
  go_wp2_with fail
  refine wp_region_still_tail 7 (by kernel_rfl) (by kernel_rfl) ?_
  simp only [List.take_succ_cons, List.take_zero, List.drop_succ_cons, List.drop_zero]
  change wpStill _ _ (World.drew _) _ _ _
  still_step
  still_step
  still_step
  still_step
  still_step
  have e0 : IntKind.i64.wrap (k : Int) = (k : Int) := by simp [IntKind.wrap, IntKind.bits, IntKind.signed]; omega
  have d1 : (0 : Int) ≤ (k : Int) := by omega
  have d2 : (k : Int) < 5 := by omega
  still_step
  still_step
  refine wpStill_nil ?_
  change wpList _ _ _ _ _ (World.drew _)
  have hown := own_below (own_three (w.alloc (.cells #[.string nm, .int .i64 ((k : Int) + 1), .bool sg] 32)) typeN nm sw) (Below.refl _ _).drew
  rw [World.size_alloc] at hown
  have HBd := Lib.hid (show Below w.heap.size w (((w.alloc (.cells #[.string nm, .int .i64 ((k : Int) + 1), .bool sg] 32)).alloc (.cells #[.string typeN, .string nm, .string sw] 9)).drew) from (HX.out.alloc (by simp) _).drew)
  have hsws : sw.size ≤ 1000000000 := by rw [← HSW.out]; unfold synW; repeat (split <;> try decide)
  have HZS := Lib.hid (show ∀ s ∈ [typeN, nm, sw, singleN], s.size ≤ 1000000000 by
    intro s hs
    simp only [List.mem_cons, List.not_mem_nil, or_false] at hs
    rcases hs with rfl | rfl | rfl | rfl
    · decide
    · exact hz
    · exact hsws
    · decide)
  cases sg
  · have HE := Lib.hid (show typeLn ⟨nm, (k : Int) + 1, false⟩ = joinB 32 [typeN, nm, sw] ++ ⟨#[10]⟩ by unfold typeLn; simp only; rw [HSW.out]; rfl)
    obtain ⟨ao, cap, e, hS⟩ := strs_own hown rfl
    simp only [Value.slice.injEq] at e
    obtain ⟨rfl, _, rfl⟩ := e
    have HC := Lib.hid (joinF_s 32 _ 3 3 _ _ hS (by decide) (by decide) (fun s hs => HZS.out s (by simp only [List.mem_cons, List.not_mem_nil, or_false] at hs ⊢; rcases hs with h | h | h <;> simp [h])))
    clear hown hS
    unfold typeN at HC HBd
    go_wp2_with fail
    refine HC.out.mono ?_
    rintro e w1 ⟨rfl, hb⟩
    have HB := Lib.hid (HBd.out.trans (hb.mono HBd.out.size)); clear hb
    have hjz := joinB_size (sep := 32) (l := [typeN, nm, sw]) (by simp) (fun s hs => HZS.out s (by simp only [List.mem_cons, List.not_mem_nil, or_false] at hs ⊢; rcases hs with h | h | h <;> simp [h]))
    unfold typeN at hjz HE
    obtain ⟨js, hjs⟩ : ∃ s, joinB 32 [⟨#[116, 121, 112, 101]⟩, nm, sw] = s := ⟨_, rfl⟩
    rw [hjs] at hjz HE ⊢
    clear hjs
    have hj1 : ¬ (9223372036854775807 < js.size + 1) := by omega
    go_wp2_with fail
    go_ret
    exact ⟨by rw [HE.out]; rfl, HB.out⟩
  · have HE := Lib.hid (show typeLn ⟨nm, (k : Int) + 1, true⟩ = joinB 32 [typeN, nm, sw, singleN] ++ ⟨#[10]⟩ by unfold typeLn; simp only; rw [HSW.out]; rfl)
    have hsz : w.heap.size + 1 ≤ (((w.alloc (.cells #[.string nm, .int .i64 ((k : Int) + 1), .bool true] 32)).alloc (.cells #[.string typeN, .string nm, .string sw] 9)).drew).heap.size := by simp
    unfold typeN at hown HBd hsz
    go_wp2_with (at_builtin; go_must (refine push_str _ hown (.tmp 14) (.tmp 15) singleN ?_ ?_ ?_ ?_ ?_ ?_ ?_; exact rfl; exact rfl; exact rfl; (rw [show ∀ W : World, W.drew.heap.size = W.heap.size from fun _ => rfl, World.size_alloc, World.size_alloc]; exact rfl); omega; exact hsz; intro v3 w3 hown3 hb3))
    obtain ⟨ao, cap, rfl, hS⟩ := strs_own hown3 (l := [typeN, nm, sw, singleN]) rfl
    have HC := Lib.hid (joinF_s 32 _ 4 _ _ _ hS (by decide) (by decide) HZS.out)
    have HB3 := Lib.hid (HBd.out.trans (hb3.mono (Nat.le_succ _)))
    clear hown hown3 hS hb3
    refine HC.out.mono ?_
    rintro e w1 ⟨rfl, hb⟩
    have HB := Lib.hid (HB3.out.trans (hb.mono HB3.out.size)); clear hb
    have hjz := joinB_size (sep := 32) (l := [typeN, nm, sw, singleN]) (by simp) HZS.out
    obtain ⟨js, hjs⟩ : ∃ s, joinB 32 [typeN, nm, sw, singleN] = s := ⟨_, rfl⟩
    rw [hjs] at hjz HE ⊢
    clear hjs
    have hj1 : ¬ (9223372036854775807 < js.size + 1) := by omega
    go_wp2_with fail
    go_ret
    exact ⟨by rw [HE.out]; rfl, HB.out⟩
end Go.Proofs.YtclfjdnemafmeaaGreatDoor
end

section
/-
  Contract of schema's classLine. Condition: names of at most 100000 bytes, lists of at most 1000 names.
-/
set_option maxRecDepth 100000
namespace Go.Proofs.YtclfjdnemafmeaaGreatDoor
open Go.RowKit Go.PlainAid
def dashN : ByteArray := ⟨#[45]⟩
def superW (s : ByteArray) : ByteArray := if s.size = 0 then dashN else s
def classLn (c : Cl) : ByteArray := joinB 32 [classN, c.name, superW c.super, listW c.must, listW c.may] ++ ⟨#[10]⟩
theorem listW_size {l : List ByteArray} (hl : l.length ≤ 1000) (hz : ∀ s ∈ l, s.size ≤ 100000) : (listW l).size ≤ 1000000000 := by
  unfold listW
  split
  · decide
  · have := join_le 44 100000 (l.map (·.data.toList)) (fun x hx => by
      obtain ⟨s, hs, rfl⟩ := List.mem_map.1 hx
      have := hz s hs
      rw [← Lib.size_eq]; exact this)
    rw [List.length_map] at this
    have h5 : l.length * (100000 + 1) ≤ 1000 * 100001 := Nat.mul_le_mul_right _ hl
    unfold joinB
    rw [Lib.size_mk]; omega
theorem own_five (w : World) (a b c d e : ByteArray) : (w.alloc (.cells #[.string a, .string b, .string c, .string d, .string e] 9)).ownsRow w.heap.size 9 1 (.slice (some ⟨w.heap.size, 0, none⟩) 5 5) 5 (scells [a, b, c, d, e]) :=
  ⟨rfl, .inr ⟨w.heap.size, 5, _, rfl, Nat.le_refl _, heap_alloc_new w _, Nat.le_refl _, by unfold maxLen; omega, rfl, rfl⟩⟩
theorem keepL3 {w w1 w2 : World} {f : Nat} {A B C : Addr} {x y z : Value} (h : w1.cell? A = some x ∧ w1.cell? B = some y ∧ w1.cell? C = some z ∧ Hid (Below f w w1 ∧ f < w1.heap.size)) (hb : Below w1.heap.size w1 w2) :
    w2.cell? A = some x ∧ w2.cell? B = some y ∧ w2.cell? C = some z ∧ Hid (Below f w w2 ∧ f < w2.heap.size) :=
  ⟨cell_later hb h.1, cell_later hb h.2.1, cell_later hb h.2.2.1, Lib.hid ⟨h.2.2.2.out.1.trans (hb.mono (Nat.le_of_lt h.2.2.2.out.2)), Nat.lt_of_lt_of_le h.2.2.2.out.2 hb.size⟩⟩
set_option maxHeartbeats 8000000 in
theorem classLine_s (c : Cl) (a1 a2 : Option Addr) (p1 q1 p2 q2 : Nat) (w : World) (hm : StrsAt w a1 p1 q1 c.must) (hy : StrsAt w a2 p2 q2 c.may) (hz : c.name.size ≤ 100000) (hz2 : c.super.size ≤ 100000) (hz3 : ∀ s ∈ c.must, s.size ≤ 100000) (hz4 : ∀ s ∈ c.may, s.size ≤ 100000) (hl1 : p1 ≤ 1000) (hl2 : p2 ≤ 1000) :
    Calls Tryz.prog 69 #[.agg #[.string c.name, .string c.super, .slice a1 p1 q1, .slice a2 p2 q2]] w fun e w' => e = .returned (.string (classLn c)) ∧ Below w.heap.size w w' := by
  obtain ⟨nm, su, ms, ys⟩ := c
  simp only at hm hy hz hz2 hz3 hz4 ⊢
  have HC1 := Lib.hid (fun (W : World) (hW : Below w.heap.size w W) => listWord_s a1 p1 q1 ms W (hm.below hW) hl1 (fun s hs => Nat.le_trans (hz3 s hs) (by decide)))
  have HC2 := Lib.hid (fun (W : World) (hW : Below w.heap.size w W) => listWord_s a2 p2 q2 ys W (hy.below hW) hl2 (fun s hs => Nat.le_trans (hz4 s hs) (by decide)))
  have hlm := listW_size (l := ms) (by rw [hm.1]; exact hl1) hz3
  have hly := listW_size (l := ys) (by rw [hy.1]; exact hl2) hz4
  obtain ⟨sw, hsw⟩ : ∃ s, superW su = s := ⟨_, rfl⟩
  have hsz : sw.size ≤ 1000000000 := by rw [← hsw]; unfold superW; split; decide; omega
  obtain ⟨lm, hlme⟩ : ∃ s, listW ms = s := ⟨_, rfl⟩
  obtain ⟨ly, hlye⟩ : ∃ s, listW ys = s := ⟨_, rfl⟩
  rw [hlme] at HC1 hlm
  rw [hlye] at HC2 hly
  have HE := Lib.hid (show classLn ⟨nm, su, ms, ys⟩ = joinB 32 [classN, nm, sw, lm, ly] ++ ⟨#[10]⟩ by unfold classLn; simp only; rw [hsw, hlme, hlye])
  have HZS := Lib.hid (show ∀ s ∈ [classN, nm, sw, lm, ly], s.size ≤ 1000000000 by
    intro s hs
    simp only [List.mem_cons, List.not_mem_nil, or_false] at hs
    rcases hs with rfl | rfl | rfl | rfl | rfl
    · decide
    · omega
    · exact hsz
    · exact hlm
    · exact hly)
  clear hm hy hz3 hz4 hlme hlye hlm hly
  have HB0 := Lib.hid ((Below.refl w.heap.size w).alloc (Nat.le_refl _) (.cells #[.string nm, .string su, .slice a1 p1 q1, .slice a2 p2 q2] 57))
  have S0 : (w.alloc (.cells #[.string nm, .string su, .slice a1 p1 q1, .slice a2 p2 q2] 57)).drew.cell? ⟨w.heap.size, 0, none⟩ = some (.string nm) ∧ (w.alloc (.cells #[.string nm, .string su, .slice a1 p1 q1, .slice a2 p2 q2] 57)).drew.cell? ⟨w.heap.size, 2, none⟩ = some (.slice a1 p1 q1) ∧ (w.alloc (.cells #[.string nm, .string su, .slice a1 p1 q1, .slice a2 p2 q2] 57)).drew.cell? ⟨w.heap.size, 3, none⟩ = some (.slice a2 p2 q2) ∧ Hid (Below w.heap.size w (w.alloc (.cells #[.string nm, .string su, .slice a1 p1 q1, .slice a2 p2 q2] 57)).drew ∧ w.heap.size < (w.alloc (.cells #[.string nm, .string su, .slice a1 p1 q1, .slice a2 p2 q2] 57)).drew.heap.size) :=
    ⟨by go_simp, by go_simp, by go_simp, Lib.hid ⟨HB0.out.drew, by show _ < (w.alloc _).heap.size; simp⟩⟩
  obtain ⟨eb, heb⟩ : ∃ b, su.toList.isEmpty = b := ⟨_, rfl⟩
  have hes := str_none su
  rw [heb] at hes
  have hcase : (eb = true ∧ sw = dashN) ∨ (eb = false ∧ sw = su) := by
    rw [← hsw]; unfold superW
    cases eb
    · exact .inr ⟨rfl, if_neg (by have := of_decide_eq_false hes.symm; exact this)⟩
    · exact .inl ⟨rfl, if_pos (of_decide_eq_true hes.symm)⟩
  clear hes hsw
  rcases hcase with ⟨rfl, h⟩ | ⟨rfl, h⟩
  · rw [h] at HE HZS
    clear h hsz
    go_enter Tryz.func69, Tryz.ntmps69
    go_wp2_with fail
    refine wp_region_held_drew (S := fun W => W.cell? ⟨w.heap.size, 0, none⟩ = some (.string nm) ∧ W.cell? ⟨w.heap.size, 2, none⟩ = some (.slice a1 p1 q1) ∧ W.cell? ⟨w.heap.size, 3, none⟩ = some (.slice a2 p2 q2) ∧ Hid (Below w.heap.size w W ∧ w.heap.size < W.heap.size)) (by kernel_rfl) (S0) (fun hS => ?_)
    refine wpAnyH_take (i := 0) (oi := { dst := some 9, op := _, type := _, pos := _, after := _, guard := _ }) (v := ?_) rfl (by kernel_rfl) (by kernel_rfl) (by kernel_rfl) (fun _ _ _ h => h) (Or.inl ⟨by rfl, ?_⟩) (by assumption) ?_
    rotate_left
    · intro w hSw
      try dsimp only at hSw
      go_simp
      try with_reducible rfl
    try simp only [Act.put, List.setIfInBounds_toArray, List.set_cons_zero, List.set_cons_succ]
    refine wpAnyH_take (i := 1) (oi := { dst := some 10, op := _, type := _, pos := _, after := _, guard := _ }) (v := ?_) rfl (by kernel_rfl) (by kernel_rfl) (by kernel_rfl) (fun _ _ _ h => h) (Or.inl ⟨by rfl, ?_⟩) (by assumption) ?_
    rotate_left
    · intro w hSw
      try dsimp only at hSw
      go_simp
      try with_reducible rfl
    try simp only [Act.put, List.setIfInBounds_toArray, List.set_cons_zero, List.set_cons_succ]
    refine wpAnyH_take (i := 2) (oi := { dst := some 11, op := _, type := _, pos := _, after := _, guard := _ }) (v := ?_) rfl (by kernel_rfl) (by kernel_rfl) (by kernel_rfl) (fun _ _ _ h => h) (Or.inl ⟨by rfl, ?_⟩) (by assumption) ?_
    rotate_left
    · intro w hSw
      try dsimp only at hSw
      go_simp
      try with_reducible rfl
    try simp only [Act.put, List.setIfInBounds_toArray, List.set_cons_zero, List.set_cons_succ]
    refine wpAnyH_take (i := 3) (oi := { dst := some 12, op := _, type := _, pos := _, after := _, guard := _ }) (v := ?_) rfl (by kernel_rfl) (by kernel_rfl) (by kernel_rfl) (fun _ _ _ h => h) (Or.inl ⟨by rfl, ?_⟩) (by assumption) ?_
    rotate_left
    · intro w hSw
      try dsimp only at hSw
      go_simp
      try with_reducible rfl
    try simp only [Act.put, List.setIfInBounds_toArray, List.set_cons_zero, List.set_cons_succ]
    refine wpAnyH_take (i := 4) (oi := { dst := some 13, op := _, type := _, pos := _, after := _, guard := _ }) (v := ?_) rfl (by kernel_rfl) (by kernel_rfl) (by kernel_rfl) (fun _ _ _ h => h) (Or.inl ⟨by rfl, ?_⟩) (by assumption) ?_
    rotate_left
    · intro w hSw
      try dsimp only at hSw
      go_simp
      try with_reducible rfl
    try simp only [Act.put, List.setIfInBounds_toArray, List.set_cons_zero, List.set_cons_succ]
    refine wpAnyH_take (i := 6) (oi := { dst := some 15, op := _, type := _, pos := _, after := _, guard := _ }) (v := ?_) rfl (by kernel_rfl) (by kernel_rfl) (by kernel_rfl) (fun _ _ _ h => h) (Or.inl ⟨by rfl, ?_⟩) (by assumption) ?_
    rotate_left
    · intro w hSw
      try dsimp only at hSw
      go_simp
      try with_reducible rfl
    try simp only [Act.put, List.setIfInBounds_toArray, List.set_cons_zero, List.set_cons_succ]
    refine wpAnyH_take (i := 7) (oi := { dst := some 16, op := _, type := _, pos := _, after := _, guard := _ }) (v := ?_) rfl (by kernel_rfl) (by kernel_rfl) (by kernel_rfl) (fun _ _ _ h => h) (Or.inl ⟨by rfl, ?_⟩) (by assumption) ?_
    rotate_left
    · intro w hSw
      try dsimp only at hSw
      go_simp
      try with_reducible rfl
    try simp only [Act.put, List.setIfInBounds_toArray, List.set_cons_zero, List.set_cons_succ]
    refine wpAnyH_ready (rs := [5]) (by kernel_rfl) (by simp) ?_
    refine AllReadyH.cons rfl (fun K hK => ?_) AllReadyH.nil
    go_simp
    refine (HC1.out _ hS.2.2.2.out.1).mono ?_
    rintro e w5 ⟨rfl, hb⟩
    go_wp2_with fail
    refine hK.out _ _ ?_ (fun hHeld => ?_)
    · exact keepL3 hS hb
    clear hK K
    try simp only [Act.put, List.setIfInBounds_toArray, List.set_cons_zero, List.set_cons_succ]
    refine wpAnyH_ready (rs := [8]) (by kernel_rfl) (by simp) ?_
    refine AllReadyH.cons rfl (fun K hK => ?_) AllReadyH.nil
    go_simp
    refine (HC2.out _ hHeld.2.2.2.out.1).mono ?_
    rintro e w8 ⟨rfl, hb⟩
    have HBf := Lib.hid (show Below w.heap.size w w8 ∧ w.heap.size < w8.heap.size from ⟨hHeld.2.2.2.out.1.trans (hb.mono (Nat.le_of_lt hHeld.2.2.2.out.2)), Nat.lt_of_lt_of_le hHeld.2.2.2.out.2 hb.size⟩)
    go_wp2_with fail
    refine hK.out _ _ ?_ (fun hHeld => ?_)
    · exact keepL3 hHeld hb
    clear hK K
    try simp only [Act.put, List.setIfInBounds_toArray, List.set_cons_zero, List.set_cons_succ]
    refine wpAnyH_ready (rs := [9]) (by kernel_rfl) (by simp) ?_
    refine AllReadyH.cons rfl (fun K hK => ?_) AllReadyH.nil
    go_simp
    refine hK.out _ _ ?_ (fun hHeld => ?_)
    · exact keepL3 hHeld ((Below.refl _ _).alloc (Nat.le_refl _) _)
    clear hK K
    try simp only [Act.put, List.setIfInBounds_toArray, List.set_cons_zero, List.set_cons_succ]
    refine wpAnyH_take (i := 10) (oi := { dst := some 4, op := _, type := _, pos := _, after := _, guard := _ }) (v := ?_) rfl (by kernel_rfl) (by kernel_rfl) (by kernel_rfl) (fun _ _ _ h => h) (Or.inl ⟨by rfl, ?_⟩) (by assumption) ?_
    rotate_left
    · intro w hSw
      try dsimp only at hSw
      go_simp
      try with_reducible rfl
    try simp only [Act.put, List.setIfInBounds_toArray, List.set_cons_zero, List.set_cons_succ]
    refine wpAnyH_done (by kernel_rfl) ?_ _
    have hown := own_five w8 classN nm dashN lm ly
    have HBg := Lib.hid (show Below w.heap.size w (w8.alloc (.cells #[.string classN, .string nm, .string dashN, .string lm, .string ly] 9)) from HBf.out.1.alloc (Nat.le_of_lt HBf.out.2) _)
    obtain ⟨ao, cap, e, hST⟩ := strs_own hown rfl
    simp only [Value.slice.injEq] at e
    obtain ⟨rfl, _, rfl⟩ := e
    have HJ := Lib.hid (joinF_s 32 _ 5 5 _ _ hST (by decide) (by decide) HZS.out)
    have hjz := joinB_size (sep := 32) (l := [classN, nm, dashN, lm, ly]) (by simp) HZS.out
    obtain ⟨js, hjs⟩ : ∃ s, joinB 32 [classN, nm, dashN, lm, ly] = s := ⟨_, rfl⟩
    rw [hjs] at hjz HE HJ
    have hj1 : ¬ (9223372036854775807 < js.size + 1) := by omega
    clear hown hST hjs
    unfold classN dashN at HJ HBg
    go_wp2_with fail
    refine HJ.out.mono ?_
    rintro e w9 ⟨rfl, hb9⟩
    have HBh := Lib.hid (HBg.out.trans (hb9.mono HBg.out.size))
    clear hb9
    go_wp2_with fail
    go_ret
    exact ⟨by rw [HE.out]; rfl, HBh.out⟩
  · rw [h] at HE HZS
    clear h hsz
    go_enter Tryz.func69, Tryz.ntmps69
    go_wp2_with fail
    refine wp_region_held_drew (S := fun W => W.cell? ⟨w.heap.size, 0, none⟩ = some (.string nm) ∧ W.cell? ⟨w.heap.size, 2, none⟩ = some (.slice a1 p1 q1) ∧ W.cell? ⟨w.heap.size, 3, none⟩ = some (.slice a2 p2 q2) ∧ Hid (Below w.heap.size w W ∧ w.heap.size < W.heap.size)) (by kernel_rfl) (S0) (fun hS => ?_)
    refine wpAnyH_take (i := 0) (oi := { dst := some 9, op := _, type := _, pos := _, after := _, guard := _ }) (v := ?_) rfl (by kernel_rfl) (by kernel_rfl) (by kernel_rfl) (fun _ _ _ h => h) (Or.inl ⟨by rfl, ?_⟩) (by assumption) ?_
    rotate_left
    · intro w hSw
      try dsimp only at hSw
      go_simp
      try with_reducible rfl
    try simp only [Act.put, List.setIfInBounds_toArray, List.set_cons_zero, List.set_cons_succ]
    refine wpAnyH_take (i := 1) (oi := { dst := some 10, op := _, type := _, pos := _, after := _, guard := _ }) (v := ?_) rfl (by kernel_rfl) (by kernel_rfl) (by kernel_rfl) (fun _ _ _ h => h) (Or.inl ⟨by rfl, ?_⟩) (by assumption) ?_
    rotate_left
    · intro w hSw
      try dsimp only at hSw
      go_simp
      try with_reducible rfl
    try simp only [Act.put, List.setIfInBounds_toArray, List.set_cons_zero, List.set_cons_succ]
    refine wpAnyH_take (i := 2) (oi := { dst := some 11, op := _, type := _, pos := _, after := _, guard := _ }) (v := ?_) rfl (by kernel_rfl) (by kernel_rfl) (by kernel_rfl) (fun _ _ _ h => h) (Or.inl ⟨by rfl, ?_⟩) (by assumption) ?_
    rotate_left
    · intro w hSw
      try dsimp only at hSw
      go_simp
      try with_reducible rfl
    try simp only [Act.put, List.setIfInBounds_toArray, List.set_cons_zero, List.set_cons_succ]
    refine wpAnyH_take (i := 3) (oi := { dst := some 12, op := _, type := _, pos := _, after := _, guard := _ }) (v := ?_) rfl (by kernel_rfl) (by kernel_rfl) (by kernel_rfl) (fun _ _ _ h => h) (Or.inl ⟨by rfl, ?_⟩) (by assumption) ?_
    rotate_left
    · intro w hSw
      try dsimp only at hSw
      go_simp
      try with_reducible rfl
    try simp only [Act.put, List.setIfInBounds_toArray, List.set_cons_zero, List.set_cons_succ]
    refine wpAnyH_take (i := 4) (oi := { dst := some 13, op := _, type := _, pos := _, after := _, guard := _ }) (v := ?_) rfl (by kernel_rfl) (by kernel_rfl) (by kernel_rfl) (fun _ _ _ h => h) (Or.inl ⟨by rfl, ?_⟩) (by assumption) ?_
    rotate_left
    · intro w hSw
      try dsimp only at hSw
      go_simp
      try with_reducible rfl
    try simp only [Act.put, List.setIfInBounds_toArray, List.set_cons_zero, List.set_cons_succ]
    refine wpAnyH_take (i := 6) (oi := { dst := some 15, op := _, type := _, pos := _, after := _, guard := _ }) (v := ?_) rfl (by kernel_rfl) (by kernel_rfl) (by kernel_rfl) (fun _ _ _ h => h) (Or.inl ⟨by rfl, ?_⟩) (by assumption) ?_
    rotate_left
    · intro w hSw
      try dsimp only at hSw
      go_simp
      try with_reducible rfl
    try simp only [Act.put, List.setIfInBounds_toArray, List.set_cons_zero, List.set_cons_succ]
    refine wpAnyH_take (i := 7) (oi := { dst := some 16, op := _, type := _, pos := _, after := _, guard := _ }) (v := ?_) rfl (by kernel_rfl) (by kernel_rfl) (by kernel_rfl) (fun _ _ _ h => h) (Or.inl ⟨by rfl, ?_⟩) (by assumption) ?_
    rotate_left
    · intro w hSw
      try dsimp only at hSw
      go_simp
      try with_reducible rfl
    try simp only [Act.put, List.setIfInBounds_toArray, List.set_cons_zero, List.set_cons_succ]
    refine wpAnyH_ready (rs := [5]) (by kernel_rfl) (by simp) ?_
    refine AllReadyH.cons rfl (fun K hK => ?_) AllReadyH.nil
    go_simp
    refine (HC1.out _ hS.2.2.2.out.1).mono ?_
    rintro e w5 ⟨rfl, hb⟩
    go_wp2_with fail
    refine hK.out _ _ ?_ (fun hHeld => ?_)
    · exact keepL3 hS hb
    clear hK K
    try simp only [Act.put, List.setIfInBounds_toArray, List.set_cons_zero, List.set_cons_succ]
    refine wpAnyH_ready (rs := [8]) (by kernel_rfl) (by simp) ?_
    refine AllReadyH.cons rfl (fun K hK => ?_) AllReadyH.nil
    go_simp
    refine (HC2.out _ hHeld.2.2.2.out.1).mono ?_
    rintro e w8 ⟨rfl, hb⟩
    have HBf := Lib.hid (show Below w.heap.size w w8 ∧ w.heap.size < w8.heap.size from ⟨hHeld.2.2.2.out.1.trans (hb.mono (Nat.le_of_lt hHeld.2.2.2.out.2)), Nat.lt_of_lt_of_le hHeld.2.2.2.out.2 hb.size⟩)
    go_wp2_with fail
    refine hK.out _ _ ?_ (fun hHeld => ?_)
    · exact keepL3 hHeld hb
    clear hK K
    try simp only [Act.put, List.setIfInBounds_toArray, List.set_cons_zero, List.set_cons_succ]
    refine wpAnyH_ready (rs := [9]) (by kernel_rfl) (by simp) ?_
    refine AllReadyH.cons rfl (fun K hK => ?_) AllReadyH.nil
    go_simp
    refine hK.out _ _ ?_ (fun hHeld => ?_)
    · exact keepL3 hHeld ((Below.refl _ _).alloc (Nat.le_refl _) _)
    clear hK K
    try simp only [Act.put, List.setIfInBounds_toArray, List.set_cons_zero, List.set_cons_succ]
    refine wpAnyH_take (i := 10) (oi := { dst := some 4, op := _, type := _, pos := _, after := _, guard := _ }) (v := ?_) rfl (by kernel_rfl) (by kernel_rfl) (by kernel_rfl) (fun _ _ _ h => h) (Or.inl ⟨by rfl, ?_⟩) (by assumption) ?_
    rotate_left
    · intro w hSw
      try dsimp only at hSw
      go_simp
      try with_reducible rfl
    try simp only [Act.put, List.setIfInBounds_toArray, List.set_cons_zero, List.set_cons_succ]
    refine wpAnyH_done (by kernel_rfl) ?_ _
    have hown := own_five w8 classN nm su lm ly
    have HBg := Lib.hid (show Below w.heap.size w (w8.alloc (.cells #[.string classN, .string nm, .string su, .string lm, .string ly] 9)) from HBf.out.1.alloc (Nat.le_of_lt HBf.out.2) _)
    obtain ⟨ao, cap, e, hST⟩ := strs_own hown rfl
    simp only [Value.slice.injEq] at e
    obtain ⟨rfl, _, rfl⟩ := e
    have HJ := Lib.hid (joinF_s 32 _ 5 5 _ _ hST (by decide) (by decide) HZS.out)
    have hjz := joinB_size (sep := 32) (l := [classN, nm, su, lm, ly]) (by simp) HZS.out
    obtain ⟨js, hjs⟩ : ∃ s, joinB 32 [classN, nm, su, lm, ly] = s := ⟨_, rfl⟩
    rw [hjs] at hjz HE HJ
    have hj1 : ¬ (9223372036854775807 < js.size + 1) := by omega
    clear hown hST hjs
    unfold classN at HJ HBg
    go_wp2_with fail
    refine HJ.out.mono ?_
    rintro e w9 ⟨rfl, hb9⟩
    have HBh := Lib.hid (HBg.out.trans (hb9.mono HBg.out.size))
    clear hb9
    go_wp2_with fail
    go_ret
    exact ⟨by rw [HE.out]; rfl, HBh.out⟩
end Go.Proofs.YtclfjdnemafmeaaGreatDoor
end

section
/-
  Contracts of schema's Check and Type. Condition: names of at most 1000000000 bytes.
-/
set_option maxRecDepth 100000
namespace Go.Proofs.YtclfjdnemafmeaaGreatDoor
open Go.RowKit Go.PlainAid
set_option maxHeartbeats 4000000 in
theorem checkF_s (v : Value) (ts : List Ty) (cs : List Cl) (w : World) (h : SchV w v ts cs) :
    Calls Tryz.prog 13 #[v] w fun e w' => e = .returned (.int .i64 (chkS ts cs)) ∧ Below w.heap.size w w' := by
  obtain ⟨ao, n, cap, bo, m, dap, rfl, h1, h2, h3, h4⟩ := h
  have hb0 : Below w.heap.size w (w.alloc (.cells #[.slice ao n cap, .slice bo m dap] 25)) := (Below.refl _ _).alloc (Nat.le_refl _) _
  have HB0 := Lib.hid hb0
  have HC := Lib.hid (newTable_s ao bo n cap m dap ts cs w _ hb0 (h1.below hb0) h2 h3 h4)
  clear h1 h2 h3 h4 hb0
  go_enter Tryz.func13, Tryz.ntmps13
  go_wp2_with fail
  refine HC.out.mono ?_
  rintro e w1 ⟨m1, m2, rfl, _, _, _, _, hb⟩
  have HB1 := Lib.hid (HB0.out.trans (hb.mono (by simp)))
  have hs : w.heap.size ≤ w1.heap.size := HB1.out.size
  clear hb HC HB0
  go_wp2_with fail
  go_ret
  exact ⟨rfl, HB1.out.alloc hs _⟩
set_option maxHeartbeats 4000000 in
theorem typeF_s (v : Value) (ts : List Ty) (cs : List Cl) (n : ByteArray) (w : World) (h : SchV w v ts cs) (hn : n.size ≤ 1000000000) :
    Calls Tryz.prog 15 #[v, .string n] w fun e w' => e = .returned (.tuple #[tyV ((tyOf (soundT ts cs) n).getD zeroTy), .bool (tyOf (soundT ts cs) n).isSome]) ∧ Below w.heap.size w w' := by
  have h' := h
  obtain ⟨ao, k, cap, bo, m, dap, rfl, _⟩ := h'
  have hb0 : Below w.heap.size w ((w.alloc (.cells #[.slice ao k cap, .slice bo m dap] 25)).alloc (.cells #[.string ⟨#[]⟩, .int .i64 0, .bool false] 32)) := ((Below.refl _ _).alloc (Nat.le_refl _) _).alloc (by simp) _
  have HB0 := Lib.hid hb0
  have HC := Lib.hid (accepted_s _ ts cs _ (h.below hb0))
  clear h hb0
  obtain ⟨u, hu⟩ : ∃ u, (tyOf (soundT ts cs) n).getD zeroTy = u := ⟨_, rfl⟩
  obtain ⟨ok, hok⟩ : ∃ b, (tyOf (soundT ts cs) n).isSome = b := ⟨_, rfl⟩
  have HU := Lib.hid (And.intro hu hok)
  rw [hu, hok]
  unfold tyV
  clear hu hok
  go_enter Tryz.func15, Tryz.ntmps15
  go_wp2_with fail
  refine HC.out.mono ?_
  rintro e w1 ⟨tv, rfl, ⟨m1, m2, rfl, hT, _⟩, hb⟩
  have HB1 := Lib.hid (HB0.out.trans (hb.mono (by simp; omega)))
  have HC2 := typeOf_s m1 m2 (soundT ts cs) n w1 hT hn
  rw [HU.out.1, HU.out.2] at HC2
  unfold tyV at HC2
  have HC3 := Lib.hid HC2
  have r0 : w1.cell? ⟨w.heap.size + 1, 0, none⟩ = some (.string ⟨#[]⟩) := cell_later hb (by go_simp)
  have r1 : w1.cell? ⟨w.heap.size + 1, 1, none⟩ = some (.int .i64 0) := cell_later hb (by go_simp)
  have r2 : w1.cell? ⟨w.heap.size + 1, 2, none⟩ = some (.bool false) := cell_later hb (by go_simp)
  have f0 := frozen_later (i := 0) hb (b := w.heap.size + 1) (by simp) (by go_simp)
  have f1 := frozen_later (i := 1) hb (b := w.heap.size + 1) (by simp) (by go_simp)
  have f2 := frozen_later (i := 2) hb (b := w.heap.size + 1) (by simp) (by go_simp)
  have hs1 : w.heap.size + 1 < w1.heap.size := by have := hb.size; simp at this; omega
  have HR := Lib.hid (And.intro r0 (And.intro r1 (And.intro r2 (And.intro f0 (And.intro f1 f2)))))
  clear hb hT HC HB0 HC2 r0 r1 r2 f0 f1 f2
  go_wp2_with fail
  refine HC3.out.mono ?_
  rintro e w2 ⟨rfl, hb⟩
  have r0 := cell_later hb HR.out.1
  have r1 := cell_later hb HR.out.2.1
  have r2 := cell_later hb HR.out.2.2.1
  have f0 := frozen_later hb hs1 HR.out.2.2.2.1
  have f1 := frozen_later hb hs1 HR.out.2.2.2.2.1
  have f2 := frozen_later hb hs1 HR.out.2.2.2.2.2
  have HB2 := Lib.hid (HB1.out.trans (hb.mono HB1.out.size))
  have hs0 : w.heap.size ≤ w.heap.size + 1 := Nat.le_succ _
  clear hb HC3 HR
  go_wp2_with fail
  refine bodyPost_ret (v := .tuple #[.agg #[.string u.name, .int .i64 u.syn, .bool u.single], .bool ok]) (by simp only [results, Tryz.results15]; go_simp) rfl ?_
  exact ⟨rfl, below_set1 (below_set1 (below_set1 HB2.out (w.heap.size + 1) 0 hs0 _) (w.heap.size + 1) 1 hs0 _) (w.heap.size + 1) 2 hs0 _⟩
end Go.Proofs.YtclfjdnemafmeaaGreatDoor
end
