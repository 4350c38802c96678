/-
  Proved: identitylaw02.CodecNests returns true for every slice of slices of strings (the tied card). No condition beyond the row's own.
-/
import Derived.Test.YtelddbgnhfhkiabDoorLawFrameB
import Derived.Test.YtelddbgnhfhkiabDoorCodecSame
import Derived.Test.YtelddbgnhfhkiabDoorCodecQ
import Derived.Test.YtelddbgnhfhkiabDoorOpenStrss
set_option linter.unusedVariables false
set_option linter.unusedSimpArgs false
set_option linter.unnecessarySimpa false
namespace Go.Proofs.YtelddbgnhfhkiabDoor
open Go.ChangeShapes Go.WideShapes Go.ChangeAt Go.RowKit Go.PlainAid
open Go.ChangeMaps (open_string shut_string)

theorem great_k (ao : Option Addr) (n cap : Nat) (ps : List ByteArray) (r : Bool) (w : World) (h : StrsAt w ao n cap ps) (hr : greatB ps 6 40 = r) :
    Calls Tryd.prog 20 #[.slice ao n cap, .int .i64 6, .int .i64 40] w fun e w' => e = .returned (.bool r) ∧ w = w' := by
  subst hr; exact great_s ao n cap ps 6 40 w h (by decide)
theorem same_k (ao bo : Option Addr) (n m cap dap : Nat) (ps qs : List ByteArray) (r : Bool) (w : World) (h : StrsAt w ao n cap ps) (k : StrsAt w bo m dap qs) (hr : decide (ps = qs) = r) :
    Calls Tryd.prog 23 #[.slice ao n cap, .slice bo m dap] w fun e w' => e = .returned (.bool r) ∧ Below w.heap.size w w' := by
  subst hr; exact same_s ao bo n m cap dap ps qs w h k
theorem joinS_le (ps : List ByteArray) (m n : Nat) (hp : ∀ j, j < ps.length → (partAt ps j).size ≤ m) (hn : ps.length ≤ n) : (joinS ps).size ≤ n * (3 * m + 1) + 3 := by
  have h1 := bar_len 124 (3 * m) ((dataL ps).map escL) (fun p hq => by
    obtain ⟨q, hq1, rfl⟩ := List.mem_map.1 hq
    unfold dataL at hq1
    obtain ⟨x, hx, rfl⟩ := List.mem_map.1 hq1
    have := great_all hp x hx
    have h3 := escL_length x.data.toList
    rw [← Lib.size_eq] at h3
    omega)
  have h2 : ((dataL ps).map escL).length ≤ n := by simp [dataL]; exact hn
  have h3 := Nat.mul_le_mul_right (3 * m + 1) h2
  show (joinL (dataL ps)).length ≤ _
  unfold joinL
  split
  · show 1 ≤ _; omega
  · split
    · show 3 ≤ _; omega
    · omega
theorem str_eq {a b : ByteArray} (h : a = b) : (a.toList == b.toList) = true := by rw [h]; exact beq_self_eq_true _
theorem str_ne {a b : ByteArray} (h : a ≠ b) : (a.toList == b.toList) = false := by
  rw [Lib.toList_data, Lib.toList_data]
  exact beq_false_of_ne fun e => h (by rw [← Lib.mk_data a, ← Lib.mk_data b, e])

/-- the forms of the lists before k -/
def forms (ls : List (List ByteArray)) (k : Nat) : List ByteArray := (ls.take k).map joinS
theorem forms_len (ls : List (List ByteArray)) (k : Nat) (h : k ≤ ls.length) : (forms ls k).length = k := by unfold forms; simp; omega
theorem forms_succ (ls : List (List ByteArray)) (k : Nat) (h : k < ls.length) : forms ls (k + 1) = forms ls k ++ [joinS (rowAt ls k)] := by
  unfold forms rowAt
  rw [List.take_add_one, List.getElem?_eq_getElem h, List.getD_eq_getElem?_getD, List.getElem?_eq_getElem h, List.map_append]; rfl
theorem forms_at (ls : List (List ByteArray)) (n j : Nat) (h : j < n) (hn : n ≤ ls.length) : partAt (forms ls n) j = joinS (rowAt ls j) := by
  unfold forms partAt rowAt
  rw [List.getD_eq_getElem?_getD, List.getElem?_map, List.getElem?_take, if_pos h, List.getD_eq_getElem?_getD, List.getElem?_eq_getElem (show j < ls.length by omega)]; rfl

set_option maxRecDepth 100000 in
set_option maxHeartbeats 4000000 in
theorem nests_s (ao : Option Addr) (n cap : Nat) (ls : List (List ByteArray)) (w : World) (hs : NestsAt w ao n cap ls) (ho : COk w) :
    Calls Tryd.prog 6 #[.slice ao n cap] w fun e w' => e = .returned (.bool true) ∧ Below w.heap.size w w' := by
  have B0 := Below.refl w.heap.size w
  have O0 := ho
  have hll := hs.1
  have hnc := hs.2.1
  have hcm := hs.2.2.1
  unfold maxLen at hcm
  have HN := Lib.hid hs
  clear hs
  by_cases h1 : 6 < n
  · skip
    go_enter Tryd.func6, Tryd.ntmps6
    go_wp2_with fail
    refine (live_s _ O0).mono ?_
    rintro e w1 ⟨rfl, hb⟩
    have B1 := B0.trans (hb.mono B0.size)
    have O1 := O0.below hb
    clear hb
    go_wp2_with fail
    go_ret
    exact ⟨rfl, B1⟩
  · go_enter Tryd.func6, Tryd.ntmps6
    go_wp2_with fail
    go_loopw [3, 16] (fun fv iv wr => ∃ k : Nat, k ≤ n ∧ iv = .int .i64 k ∧ wr.ownsRow w.heap.size 9 1 fv k (scells (forms ls k)) ∧ Hid (∀ j, j < k → greatB (rowAt ls j) 6 40 = false) ∧ Below w.heap.size w wr) (fun _ iv _ => n - (intOf iv).toNat)
    case atStart => exact ⟨0, Nat.zero_le _, rfl, World.ownsRow_nil _ _ _ _, Lib.hid fun j hj => absurd hj (Nat.not_lt_zero _), Below.refl _ _⟩
    case round =>
      obtain ⟨k, hk, rfl, hown, HG, hbel⟩ := hrel
      have OR := O0.below hbel
      by_cases hlt : k < n
      · obtain ⟨b, off, rfl, hi⟩ := (HN.out.below hbel).2.2.2 (by omega)
        obtain ⟨aj, nj, cj, hcell, S⟩ := hi k hlt
        clear hi
        have HC := Lib.hid hcell
        cases g : greatB (rowAt ls k) 6 40 with
        | true =>
          go_wp2_with fail
          refine (great_k _ _ _ (rowAt ls k) true _ S g).mono ?_
          rintro e w' ⟨rfl, rfl⟩
          go_wp2_with fail
          refine (live_s _ OR).mono ?_
          rintro e w1 ⟨rfl, hb⟩
          go_wp2_with fail
          go_ret
          exact ⟨rfl, hbel.trans (hb.mono hbel.size)⟩
        | false =>
          have HGK := Lib.hid g
          obtain ⟨gn, gp⟩ := great_false g
          have GP := Lib.hid gp
          clear g gp
          go_wp2_with fail
          refine (great_k _ _ _ (rowAt ls k) false _ S HGK.out).mono ?_
          rintro e w' ⟨rfl, rfl⟩
          go_wp2_with fail
          refine (join_s _ _ _ (rowAt ls k) _ S (by omega) (fun j hj => by have := GP.out j hj; omega)).mono ?_
          rintro e w1 ⟨rfl, hb⟩
          have hown0 := own_below hown hb
          have hbel0 := hbel.trans (hb.mono hbel.size)
          go_wp2_with (at_builtin; go_must (refine push_str _ hown0 (.tmp 25) (.tmp 31) (joinS (rowAt ls k)) ?_ ?_ ?_ ?_ ?_ ?_ ?_; exact rfl; exact rfl; exact rfl; exact rfl; omega; exact hbel0.size; intro v1 w2 hown1 hb1))
          go_roundw
          case rel =>
            refine ⟨k + 1, by omega, by go_num, ?_, Lib.hid fun j hj => ?_, hbel0.trans hb1⟩
            · rw [forms_succ ls k (by omega)]
              unfold scells
              rw [List.map_append]
              exact hown1
            · by_cases e : j = k
              · rw [e]; exact HGK.out
              · exact HG.out j (by omega)
          case measure => simp [intOf]; omega
      · have hkn : k = n := by omega
        have hown2 : wr.ownsRow w.heap.size 9 1 u3 n (scells (forms ls n)) := by rw [← hkn]; exact hown
        have HGN := Lib.hid (show ∀ j, j < n → greatB (rowAt ls j) 6 40 = false from fun j hj => HG.out j (by omega))
        have HFJ := Lib.hid (show ∀ j, j < n → partAt (forms ls n) j = joinS (rowAt ls j) from fun j hj => forms_at ls n j hj (by omega))
        have HJZ := Lib.hid (show ∀ j, j < n → (joinS (rowAt ls j)).size ≤ 1000 from fun j hj => by
          obtain ⟨gn, gp⟩ := great_false (HGN.out j hj)
          have := joinS_le (rowAt ls j) 40 6 gp gn
          omega)
        have hFl := forms_len ls n (by omega)
        obtain ⟨af, cf, hfv, F⟩ := strs_own hown2 hFl
        obtain ⟨FM, hFM⟩ : ∃ FM, FM = forms ls n := ⟨_, rfl⟩
        rw [← hFM] at F hFl HFJ
        subst hfv
        clear hown hown2 HG hFM hkn
        have HFZ := Lib.hid (show ∀ j, j < FM.length → (partAt FM j).size ≤ 1000 from fun j hj => by rw [HFJ.out j (by omega)]; exact HJZ.out j (by omega))
        have hjz : (joinS FM).size ≤ 1000000 := by have := joinS_le FM 1000 6 HFZ.out (by omega); omega
        go_wp2_with fail
        refine (join_s _ _ _ FM _ F (by omega) (fun j hj => by have := HFZ.out j hj; omega)).mono ?_
        rintro e w1 ⟨rfl, hb⟩
        have B1 := hbel.trans (hb.mono hbel.size)
        have O1 := OR.below hb
        clear hb F
        go_wp2_with fail
        refine (split_at (joinS FM) FM n 0 _ hjz O1.1 ⟨(splS_join FM).1, (splS_join FM).2, hFl⟩).mono ?_
        rintro e w2 ⟨⟨ak, ck, rfl, K⟩, hb⟩
        have B2 := B1.trans (hb.mono B1.size)
        have O2 := O1.below hb
        clear hb hbel OR B1 O1
        have HK := Lib.hid K; clear K
        go_wp2_with fail
        go_loopw [51] (fun iv wr => ∃ k : Nat, k ≤ n ∧ iv = .int .i64 k ∧ Below w2.heap.size w2 wr) (fun iv _ => n - (intOf iv).toNat)
        case atStart => exact ⟨0, Nat.zero_le _, rfl, Below.refl _ _⟩
        case round =>
          obtain ⟨k2, hk2, rfl, hbl⟩ := hrel
          have O3 := O2.below hbl
          by_cases hlt2 : k2 < n
          · obtain ⟨bk, ok, rfl, hik⟩ := (HK.out.below hbl).2.2.2 (by omega)
            have hck := (HK.out.below hbl).2.1
            have hcm2 := (HK.out.below hbl).2.2.1
            unfold maxLen at hcm2
            have hc1 := hik.2 k2 (by omega)
            rw [HFJ.out k2 hlt2] at hc1
            obtain ⟨bl, ol, hae, hi⟩ := ((HN.out.below B2).below hbl).2.2.2 (by omega)
            subst hae
            obtain ⟨aj, nj, cj, hc2, S⟩ := hi k2 hlt2
            have hz := HJZ.out k2 hlt2
            clear hi hik
            go_wp2_with fail
            refine (split_at (joinS (rowAt ls k2)) (rowAt ls k2) nj 0 _ (by omega) O3.1 ⟨(splS_join _).1, (splS_join _).2, S.1⟩).mono ?_
            rintro e w3 ⟨⟨am, cm, rfl, M⟩, hb⟩
            have hc3 := cell_later hb hc2
            have S3 := S.below hb
            have B3 := hbl.trans (hb.mono hbl.size)
            clear hb hc1 hc2 S
            go_wp2_with fail
            refine (same_k _ _ _ _ _ _ (rowAt ls k2) (rowAt ls k2) true _ M S3 (decide_eq_true rfl)).mono ?_
            rintro e w4 ⟨rfl, hb⟩
            go_wp2_with fail
            go_roundw
            case rel => exact ⟨k2 + 1, by omega, by go_num, B3.trans (hb.mono B3.size)⟩
            case measure => simp [intOf]; omega
          · go_wp2_with fail
            refine (live_s _ O3).mono ?_
            rintro e w3 ⟨rfl, hb⟩
            go_wp2_with fail
            go_ret
            exact ⟨rfl, (B2.trans (hbl.mono B2.size)).trans (hb.mono (Nat.le_trans B2.size hbl.size))⟩

theorem nests_types : ∀ t ∈ [38], Tryd.prog.readableRec t = true ∧ t < Tryd.prog.types.size := by
  have h : ([38].all fun t => Tryd.prog.readableRec t && decide (t < Tryd.prog.types.size)) = true := by kernel_rfl
  intro t ht
  have := List.all_eq_true.1 h t ht
  simpa using this

set_option maxRecDepth 100000 in
theorem nests_contract (H : Type) (enc : TypeId × Value → H) (W : World) (base : Nat) (args : Array Value) (ds gs : List (DataW H)) (before : List MemPlace)
    (hval : ∀ (j : Nat) t v, Tryd.f6.params[j]? = some t → args[j]? = some v → Value.okWide Tryd.prog W .any base t v)
    (hW : DataW.Whole enc Tryd.prog Tryd.f6.params.toList Rows.codecNestsSpec.vars false W args.toList ds gs before) (hL : laidMetH Tryd.prog Rows.codecNestsRow.laid W) (hsh : W.ShapedOpen Tryd.prog) :
    Calls Tryd.prog 6 args W fun e W' => ∃ v, e = .returned v ∧ Rows.codecNestsSpec.post enc Tryd.prog Tryd.f6 false true false false W args v W' := by
  have hW' := hW
  obtain ⟨p, q, hA0, hV, rfl, hfz, hnd⟩ := hW
  have hA : DataW.TrodAll enc Tryd.prog W 0 (fun _ => true) true Tryd.f6.params.toList args.toList ds p := hA0
  obtain ⟨rfl, rfl⟩ := trodVars_none hV
  simp only [List.append_nil] at hW'
  have hlt : ∀ x ∈ p, x.block < W.heap.size := fun x hx => by simpa using hW'.lt x hx
  have fin : ∀ W', Below W.heap.size W W' → DataW.TrodAll enc Tryd.prog W' 0 (fun b => decide (b < W.heap.size)) true [38] args.toList ds p := fun W' hb => by
    rw [Tryd.params6] at hA
    exact trodAll_below hb _ _ _ _ nests_types hA hlt
  clear hA0
  rw [Tryd.params6] at hA hval
  obtain ⟨v0, vs0, d0, ds0, p0, q0, hargs, rfl, hp0, h0, r0⟩ := trodAll_cons hA
  obtain ⟨rfl, rfl, rfl⟩ := trodAll_nil r0
  obtain rfl : args = #[v0] := by cases args; simp_all
  obtain ⟨l, ln, lc, ll, rfl, hs0⟩ := open_strss (hval 0 38 v0 rfl rfl) h0
  refine (nests_s l ln lc ll W hs0 (cok hL hsh)).mono fun e W' ⟨he, hb⟩ => ?_
  subst he
  exact ⟨_, rfl, _, _, _, [], p, [], hW', trodAll_mk1 (shut_bool Tryd.underlying4 _), fin W' hb, rfl, hb.frame _, fun h => by cases h⟩

set_option maxRecDepth 100000 in
theorem nests_lifted (os : Os) (started : os.Started) (H : Type) (enc : TypeId × Value → H) (F : Stop.Interp) :
    ReturnsInHanded {} Tryd.checked os 6 .any ((OpenSpec.ofChange Rows.codecNestsSpec).preRow enc Tryd.prog Tryd.f6 Rows.codecNestsRow.domain false Rows.codecNestsRow.laid) (((OpenSpec.ofChange Rows.codecNestsSpec).at F).post enc Tryd.prog Tryd.f6 false true false false) := by
  refine returnsInHanded_of_row (C := Tryd.checked) (s := OpenSpec.ofChange Rows.codecNestsSpec) own started (by kernel_rfl) Tryd.func6
    (witness_row (enc := enc) (C := Tryd.checked) false (World.laidAll Tryd.prog os Rows.codecNestsRow.laid) #[.slice none 0 0] (World.laidAll_os _ _ _)
      (World.shaped_of_ZipB (by kernel_rfl) (by kernel_rfl)) (by kernel_rfl)
      (OpenSpec.preRow_of_cond 8 (x := ([.nil], [], [])) (by kernel_rfl) (by kernel_rfl) (fun k hk => by cases hk) (by kernel_rfl)
        (by rw [MakeChecks.laidMetH_plain _ _ _ (by kernel_rfl)]; exact laidMet_laidAll _ (by kernel_rfl) (by kernel_rfl)))) ?_
  intro W base args ds gs before hval hW _ _ _ hL hsh _
  exact nests_contract H enc W base args ds gs before hval hW hL hsh

set_option maxRecDepth 100000 in
theorem nests_said : Rows.CodecNestsSaid :=
  OpenClaim.holds_of_cond 6 Tryd.f6 rfl rfl rfl rfl rfl rfl rfl ⟨rfl, rfl, rfl, rfl, rfl⟩ rfl rfl rfl rfl rfl (by kernel_rfl) Tryd.func6 (by kernel_rfl)
    (of_decide_eq_true (by kernel_rfl)) (by unfold Func.isWrapper; first | (rw [if_pos (by decide +kernel)]; kernel_rfl) | (rw [if_neg (by decide +kernel)]; exact ⟨rfl, rfl⟩))
    (fun os started H enc _ F => by rw [OpenClaim.pre_eq_preRow]; exact nests_lifted os started H enc F)

set_option maxRecDepth 100000 in
theorem nests_plain (f : FuncId) (fn : Func) (hf : Tryd.pinned.checked.prog.funcNamed "identity/identitylaw02.CodecNests" = some f) (hfn : Tryd.pinned.checked.prog.funcs[f]? = some fn) :
    true = Tryd.pinned.checked.prog.looks [] ∧ ∀ (j : Nat) t, fn.params[j]? = some t → Tryd.pinned.checked.prog.wantsStandIn t = false := by
  obtain rfl : f = 6 := Option.some.inj ((show Tryd.prog.funcNamed "identity/identitylaw02.CodecNests" = some 6 by kernel_rfl).symm.trans hf) |>.symm
  obtain rfl : fn = Tryd.f6 := (Option.some.inj (Tryd.func6.symm.trans hfn)).symm
  refine ⟨by kernel_rfl, fun j t ht => ?_⟩
  rw [Tryd.params6] at ht
  have hm : t ∈ [38] := by simpa using Array.mem_of_getElem? ht
  have hall : ([38].all fun u => !Tryd.prog.wantsStandIn u) = true := by kernel_rfl
  exact (show Tryd.prog.wantsStandIn t = false by simpa using List.all_eq_true.1 hall t hm)

/-- THE CARD -/
theorem nests_card : Rows.CodecNestsCardSaid :=
  Claim7.holds_tied_plain_at .later [] _ _ _ _ nests_said (fun _ h => by cases h) (by kernel_rfl) (fun _ h => by cases h) codecNests_row_tie rfl ⟨rfl, rfl⟩ (by kernel_rfl) rfl nests_plain (by kernel_rfl)
end Go.Proofs.YtelddbgnhfhkiabDoor
