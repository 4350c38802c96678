/-
  Contracts of Bind and Bound of the program and of the specification. Condition: at most 1000000 bytes; the library's variables are there.
-/
import Derived.Test.YtbogmmdmfbcbnaaDoorPrfB
import Derived.WalkKit
set_option maxRecDepth 100000
set_option linter.unusedVariables false
set_option linter.unusedSimpArgs false
set_option linter.unnecessarySimpa false
namespace Go.Proofs.YtbogmmdmfbcbnaaDoor
open Go.RowKit Go.PlainAid Go.Maps

theorem mac_k (key s r : ByteArray) (w : World) (hk : key.size ≤ 1000000) (hs : s.size ≤ 1000000) (ho : PowOk w) (hr : macS key s = r) :
    Calls Tryd.prog 27 #[.string key, .string s] w fun e w' => e = .returned (.string r) ∧ Below w.heap.size w w' := hr ▸ mac_s key s w hk hs ho
theorem rmac_k (key s r : ByteArray) (w : World) (hk : key.size ≤ 1000000) (hs : s.size ≤ 1000000) (hr : macS key s = r) :
    Calls Tryd.prog 46 #[.string key, .string s] w fun e w' => e = .returned (.string r) ∧ w = w' := hr ▸ rmac_s key s w hk hs
theorem pbar_size {a b : ByteArray} (ha : a.size ≤ 64) (hb : b.size ≤ 64) : (a ++ ⟨#[124]⟩ ++ b).size ≤ 1000000 := by
  rw [ByteArray.size_append, ByteArray.size_append]
  have : (⟨#[124]⟩ : ByteArray).size = 1 := rfl
  omega
set_option maxHeartbeats 4000000 in
theorem bind_k (sec ses req r : ByteArray) (w : World) (h1 : sec.size ≤ 1000000) (h2 : ses.size ≤ 1000000) (h3 : req.size ≤ 1000000) (ho : POk w) (hr : bndS sec ses req = r) :
    Calls Tryd.prog 23 #[.string sec, .string ses, .string req] w fun e w' => e = .returned (.string r) ∧ Below w.heap.size w w' := by
  have HO := Lib.hid ho
  clear ho
  obtain ⟨x, hx⟩ : ∃ x, plB ses = x := ⟨_, rfl⟩
  obtain ⟨y, hy⟩ : ∃ y, plB req = y := ⟨_, rfl⟩
  have HX := Lib.hid hx
  have HY := Lib.hid hy
  cases x with
  | false =>
    rw [bnd_no (by rw [hx]; rintro ⟨k, _⟩; cases k)] at hr
    subst hr
    clear hx hy
    go_enter Tryd.func23, Tryd.ntmps23
    go_wp2_with fail
    refine (plain_k ses false _ (by omega) HO.out.1 HX.out).mono ?_
    rintro e w' ⟨rfl, rfl⟩
    go_wp2_with fail
    go_ret
    exact ⟨rfl, Below.refl _ _⟩
  | true =>
    cases y with
    | false =>
      rw [bnd_no (by rw [hy]; rintro ⟨_, k⟩; cases k)] at hr
      subst hr
      clear hx hy
      go_enter Tryd.func23, Tryd.ntmps23
      go_wp2_with fail
      refine (plain_k ses true _ (by omega) HO.out.1 HX.out).mono ?_
      rintro e w' ⟨rfl, rfl⟩
      go_wp2_with fail
      refine (plain_k req false _ (by omega) HO.out.1 HY.out).mono ?_
      rintro e w' ⟨rfl, rfl⟩
      go_wp2_with fail
      go_ret
      exact ⟨rfl, Below.refl _ _⟩
    | true =>
      rw [bnd_yes hx hy] at hr
      have z1 := (plB_size hx).2
      have z2 := (plB_size hy).2
      have HZ := Lib.hid (pbar_size z1 z2)
      have hmz := macS_size sec (ses ++ ⟨#[124]⟩ ++ req)
      obtain ⟨m, hm⟩ : ∃ m, macS sec (ses ++ ⟨#[124]⟩ ++ req) = m := ⟨_, rfl⟩
      rw [hm] at hr hmz
      have HM := Lib.hid hm
      have HR := Lib.hid hr
      clear hx hy hm hr
      go_enter Tryd.func23, Tryd.ntmps23
      go_wp2_with fail
      refine (plain_k ses true _ (by omega) HO.out.1 HX.out).mono ?_
      rintro e w' ⟨rfl, rfl⟩
      go_wp2_with fail
      refine (plain_k req true _ (by omega) HO.out.1 HY.out).mono ?_
      rintro e w' ⟨rfl, rfl⟩
      go_wp2_with fail
      refine (mac_k sec _ m _ h1 HZ.out HO.out.2 HM.out).mono ?_
      rintro e w1 ⟨rfl, hb⟩
      have HB := Lib.hid hb
      clear hb
      go_wp2_with fail
      go_ret
      exact ⟨by rw [← HR.out]; rfl, HB.out⟩
set_option maxHeartbeats 4000000 in
theorem rbind_k (sec ses req r : ByteArray) (w : World) (h1 : sec.size ≤ 1000000) (h2 : ses.size ≤ 1000000) (h3 : req.size ≤ 1000000) (hr : bndS sec ses req = r) :
    Calls Tryd.prog 26 #[.string sec, .string ses, .string req] w fun e w' => e = .returned (.string r) ∧ w = w' := by
  obtain ⟨x, hx⟩ : ∃ x, plB ses = x := ⟨_, rfl⟩
  obtain ⟨y, hy⟩ : ∃ y, plB req = y := ⟨_, rfl⟩
  have HX := Lib.hid hx
  have HY := Lib.hid hy
  cases x with
  | false =>
    rw [bnd_no (by rw [hx]; rintro ⟨k, _⟩; cases k)] at hr
    subst hr
    clear hx hy
    go_enter Tryd.func26, Tryd.ntmps26
    go_wp2_with fail
    refine (rplain_k ses false _ (by omega) HX.out).mono ?_
    rintro e w' ⟨rfl, rfl⟩
    go_wp2_with fail
    go_ret
    exact ⟨rfl, rfl⟩
  | true =>
    cases y with
    | false =>
      rw [bnd_no (by rw [hy]; rintro ⟨_, k⟩; cases k)] at hr
      subst hr
      clear hx hy
      go_enter Tryd.func26, Tryd.ntmps26
      go_wp2_with fail
      refine (rplain_k ses true _ (by omega) HX.out).mono ?_
      rintro e w' ⟨rfl, rfl⟩
      go_wp2_with fail
      refine (rplain_k req false _ (by omega) HY.out).mono ?_
      rintro e w' ⟨rfl, rfl⟩
      go_wp2_with fail
      go_ret
      exact ⟨rfl, rfl⟩
    | true =>
      rw [bnd_yes hx hy] at hr
      have z1 := (plB_size hx).2
      have z2 := (plB_size hy).2
      have HZ := Lib.hid (pbar_size z1 z2)
      have hmz := macS_size sec (ses ++ ⟨#[124]⟩ ++ req)
      obtain ⟨m, hm⟩ : ∃ m, macS sec (ses ++ ⟨#[124]⟩ ++ req) = m := ⟨_, rfl⟩
      rw [hm] at hr hmz
      have HM := Lib.hid hm
      have HR := Lib.hid hr
      clear hx hy hm hr
      go_enter Tryd.func26, Tryd.ntmps26
      go_wp2_with fail
      refine (rplain_k ses true _ (by omega) HX.out).mono ?_
      rintro e w' ⟨rfl, rfl⟩
      go_wp2_with fail
      refine (rplain_k req true _ (by omega) HY.out).mono ?_
      rintro e w' ⟨rfl, rfl⟩
      go_wp2_with fail
      refine (rmac_k sec _ m _ h1 HZ.out HM.out).mono ?_
      rintro e w' ⟨rfl, rfl⟩
      go_wp2_with fail
      go_ret
      exact ⟨by rw [← HR.out]; rfl, rfl⟩
/-! ### Bound -/
theorem below_drewN (w : World) (q : Nat) : Below w.heap.size w (w.drewN q) := ⟨rfl, rfl, rfl, Nat.le_refl _, fun _ _ => rfl⟩
theorem cut_k (s a b : ByteArray) (f : Bool) (w : World) (hs : s.size ≤ 1000000000) (ho : MaxOk w) (h : Lib.cut s.data.toList [46] = (a.data.toList, b.data.toList, f)) :
    Calls Tryd.prog 42 #[.string s, .string ⟨#[46]⟩] w fun e w' => e = .returned (.tuple #[.string a, .string b, .bool f]) ∧ Below w.heap.size w w' := by
  obtain ⟨m, hm⟩ := ho
  refine (Tryd.strings_Cut s ⟨#[46]⟩ m w (by omega) hm).mono fun e w' hh => ?_
  obtain ⟨he, n, rfl⟩ := hh
  have e46 : (⟨#[46]⟩ : ByteArray).data.toList = [46] := rfl
  rw [e46, h] at he
  dsimp only at he
  rw [Lib.mk_data, Lib.mk_data] at he
  exact ⟨he, below_drewN _ _⟩
theorem cut_parts (s : ByteArray) : ∃ (a b : ByteArray) (f : Bool), Lib.cut s.data.toList [46] = (a.data.toList, b.data.toList, f) ∧ a.size ≤ s.size ∧ b.size ≤ s.size := by
  refine ⟨⟨(Lib.cut s.data.toList [46]).1.toArray⟩, ⟨(Lib.cut s.data.toList [46]).2.1.toArray⟩, (Lib.cut s.data.toList [46]).2.2, rfl, ?_, ?_⟩
  · rw [Lib.size_mk, Lib.size_eq]
    unfold Lib.cut
    split
    · simp; omega
    · exact Nat.le_refl _
  · rw [Lib.size_mk, Lib.size_eq]
    unfold Lib.cut
    split
    · simp
    · simp
theorem readHex_k (s : ByteArray) (n : Nat) (e0 : Int) (w : World) (hs : s.size ≤ 1000000000) (h : rdV s.data.toList = n ∧ rdE s.data.toList = e0) :
    Calls Tryd.prog 43 #[.string s] w fun e w' => e = .returned (.tuple #[.int .u64 n, .int .i64 e0]) ∧ w = w' := by
  obtain ⟨rfl, rfl⟩ := h; exact readHex_s s w hs
theorem rreadHex_k (s : ByteArray) (n : Nat) (e0 : Int) (w : World) (hs : s.size ≤ 1000000000) (h : rdV s.data.toList = n ∧ rdE s.data.toList = e0) :
    Calls Tryd.prog 45 #[.string s] w fun e w' => e = .returned (.tuple #[.int .u64 n, .int .i64 e0]) ∧ w = w' := by
  obtain ⟨rfl, rfl⟩ := h; exact rreadHex_s s w hs
theorem wpList_drop_s {ops : Array Oper} {rest : List Oper} {o : Oper} {a : Act} {Q : Exit → Act → World → Prop} {w : World} (hg : o.guard = none) (m x : Operand) {g n : Nat} {f : ByteArray → Option Value} {t e : TypeId} (k : ByteArray)
    (hop : o.op = Op.call { callee := Callee.builtin Builtin.delete, args := #[m, x], argTypes := #[t, 9] })
    (h : SMap w g n f) (ht : Tryd.prog.underlying t = some (.map 9 e)) (hk : k.size ≤ maxLen) (hm : a.eval m = .map (some g)) (hx : a.eval x = .string k)
    (hK : ∀ w', SMap w' g (if (f k).isSome then n - 1 else n) (delO f k) → w.grownBy w' (some g) → wpList Tryd.prog ops Q rest (a.put o.dst (.tuple #[])) w') :
    wpList Tryd.prog ops Q (o :: rest) a w := by
  refine wpList_plain hg fun K' hK' => ?_
  obtain ⟨w', hrun, r1, r2⟩ := h.drop ht k hk o.type
  unfold Oper.wp
  simp [execOp, hop, resolve, invoke, builtin, hm, hx, hrun, Result.andThen]
  exact hK' _ _ (hK w' r1 r2)
theorem zero_b (w : World) : (zeroValue 4).run Tryd.prog w = .ok (.bool false) w := by rfl
/-- what BdE says, by cases of the program -/
theorem bd_plain {sec ses st r : ByteArray} {x : Int} (h : BdE sec ses st (r, x)) (hs : plB ses = false) : r = ⟨#[]⟩ ∧ x = 4 := by
  have := bd_one h (.inl ⟨rfl, .inl hs⟩)
  injection this with h1 h2
  exact ⟨h1, h2⟩
theorem bd_none {sec ses st r : ByteArray} {x : Int} (h : BdE sec ses st (r, x)) (hs : ∀ q, ¬ Nm st q) : r = ⟨#[]⟩ ∧ x = 4 := by
  have := bd_one h (.inl ⟨rfl, .inr hs⟩)
  injection this with h1 h2
  exact ⟨h1, h2⟩
theorem bd_same {sec ses st r q : ByteArray} {x : Int} (h : BdE sec ses st (r, x)) (hs : plB ses = true) (hn : Nm st q) (he : bndS sec ses q = st) : r = q ∧ x = 0 := by
  have := bd_one h (.inr ⟨q, hs, hn, rfl⟩)
  rw [if_pos he] at this
  injection this with h1 h2
  exact ⟨h1, h2⟩
theorem bd_other {sec ses st r q : ByteArray} {x : Int} (h : BdE sec ses st (r, x)) (hs : plB ses = true) (hn : Nm st q) (he : bndS sec ses q ≠ st) : r = ⟨#[]⟩ ∧ x = 20 := by
  have := bd_one h (.inr ⟨q, hs, hn, rfl⟩)
  rw [if_neg he] at this
  injection this with h1 h2
  exact ⟨h1, h2⟩
theorem nm_parts {st q a b : ByteArray} {f : Bool} (hn : Nm st q) (hc : Lib.cut st.data.toList [46] = (a.data.toList, b.data.toList, f)) : q = a ∧ rdE b.data.toList = 0 ∧ plB a = true := by
  obtain ⟨code, h1, h2, h3⟩ := hn
  have := (nm_cut h1 h2).symm.trans hc
  injection this with e1 e2
  injection e2 with e2 _
  have hq : q = a := by rw [← Lib.mk_data q, e1, Lib.mk_data]
  subst hq
  exact ⟨rfl, by rw [← e2]; exact h3, h2⟩
set_option maxHeartbeats 8000000 in
theorem bound_k (sec ses st r : ByteArray) (x : Int) (w : World) (h1 : sec.size ≤ 1000000) (h2 : ses.size ≤ 1000000) (h3 : st.size ≤ 1000000) (ho : POk w) (hx : BdE sec ses st (r, x)) :
    Calls Tryd.prog 24 #[.string sec, .string ses, .string st] w fun e w' => e = .returned (.tuple #[.string r, .int .i64 x]) ∧ Below w.heap.size w w' := by
  have HO := Lib.hid ho
  obtain ⟨a, b, f, hc, za, zb⟩ := cut_parts st
  have HC := Lib.hid hc
  clear ho
  cases hs : plB ses with
  | false =>
    obtain ⟨rfl, rfl⟩ := bd_plain hx hs
    have HS := Lib.hid hs
    clear hx hs hc
    go_enter Tryd.func24, Tryd.ntmps24
    go_wp2_with fail
    refine (cut_k st a b f _ (by omega) HO.out.1 HC.out).mono ?_
    rintro e w1 ⟨rfl, hb⟩
    have HB := Lib.hid hb
    have HO := Lib.hid (HO.out.below hb)
    clear hb
    go_wp2_with fail
    refine (plain_k ses false _ (by omega) HO.out.1 HS.out).mono ?_
    rintro e w' ⟨rfl, rfl⟩
    go_wp2_with fail
    go_ret2
    exact ⟨rfl, HB.out⟩
  | true =>
    have HS := Lib.hid hs
    cases ha : plB a with
    | false =>
      obtain ⟨rfl, rfl⟩ := bd_none hx fun q hn => by
        have := (nm_parts hn hc).2.2
        rw [ha] at this; cases this
      have HA := Lib.hid ha
      clear hx hs hc ha
      go_enter Tryd.func24, Tryd.ntmps24
      go_wp2_with fail
      refine (cut_k st a b f _ (by omega) HO.out.1 HC.out).mono ?_
      rintro e w1 ⟨rfl, hb⟩
      have HB := Lib.hid hb
      have HO := Lib.hid (HO.out.below hb)
      clear hb
      go_wp2_with fail
      refine (plain_k ses true _ (by omega) HO.out.1 HS.out).mono ?_
      rintro e w' ⟨rfl, rfl⟩
      go_wp2_with fail
      refine (plain_k a false _ (by omega) HO.out.1 HA.out).mono ?_
      rintro e w' ⟨rfl, rfl⟩
      go_wp2_with fail
      go_ret2
      exact ⟨rfl, HB.out⟩
    | true =>
      have HA := Lib.hid ha
      obtain ⟨n, hn⟩ : ∃ n, rdV b.data.toList = n := ⟨_, rfl⟩
      by_cases he : rdE b.data.toList = 0
      · have hnm : Nm st a := by
          have := cut_nm (st := st) hc he (by rw [Lib.mk_data]; exact ha)
          rwa [Lib.mk_data] at this
        have HRd := Lib.hid (And.intro hn he)
        obtain ⟨q, hq⟩ : ∃ q, bndS sec ses a = q := ⟨_, rfl⟩
        have HQ := Lib.hid hq
        have hqz : q.size ≤ 1000000000 := by
          rw [← hq, bnd_size hs ha]
          have := (plB_size ha).2; omega
        have hmm := @run_makeMap Tryd.prog
        by_cases hqs : q = st
        · obtain ⟨rfl, rfl⟩ := bd_same hx hs hnm (by rw [hq]; exact hqs)
          have HZl := Lib.hid (show (delO (setO (fun _ => none) st (.bool true)) q st).getD (.bool false) = .bool false by unfold delO; rw [if_pos hqs.symm]; rfl)
          clear hx hs hc ha hn he hnm hq hqs
          go_enter Tryd.func24, Tryd.ntmps24
          go_wp2_with fail
          refine (cut_k st r b f _ (by omega) HO.out.1 HC.out).mono ?_
          rintro e w1 ⟨rfl, hb⟩
          have HB := Lib.hid hb
          have HO := Lib.hid (HO.out.below hb)
          clear hb
          go_wp2_with fail
          refine (plain_k ses true _ (by omega) HO.out.1 HS.out).mono ?_
          rintro e w' ⟨rfl, rfl⟩
          go_wp2_with fail
          refine (plain_k r true _ (by omega) HO.out.1 HA.out).mono ?_
          rintro e w' ⟨rfl, rfl⟩
          go_wp2_with fail
          refine (readHex_k b n 0 _ (by omega) HRd.out).mono ?_
          rintro e w' ⟨rfl, rfl⟩
          obtain ⟨w2, hrun1, hm2, hg2⟩ := (smap_made w1).store (t := 64) (e := 4) Tryd.underlying64 (by decide) st (by unfold maxLen; omega) (.bool true)
          have HB2 := Lib.hid ((box_below w1 (.map #[] 0)).grown hg2 (by simp) (fun k hk => by injection hk with hk; omega))
          have HO2 := Lib.hid (HO.out.below HB2.out)
          have HM2 := Lib.hid hm2
          clear hm2 hg2
          go_wp2_with fail
          refine (bind_k sec ses r q _ h1 h2 (by omega) HO2.out HQ.out).mono ?_
          rintro e w3 ⟨rfl, hb⟩
          have HM3 := Lib.hid (HM2.out.keep (hb.block _ HM2.out.lt))
          have HB3 := Lib.hid (HB2.out.trans (hb.mono HB2.out.size))
          clear hb
          go_wp2_with (at_delete; refine wpList_drop_s rfl _ _ q rfl HM3.out Tryd.underlying64 (by unfold maxLen; omega) rfl rfl ?_; intro w4 hm4 hg4; have hlk := hm4.look (e := 4) Tryd.underlying64 (zero_b _) st (by unfold maxLen; omega); rw [HZl.out] at hlk; have HB4 := Lib.hid (HB3.out.grown hg4 (by have := HB3.out.size; omega) (fun k hk => by injection hk with hk; omega)); clear hm4 hg4)
          go_wp2_with fail
          go_ret2
          exact ⟨rfl, HB.out.trans (HB4.out.mono HB.out.size)⟩
        · obtain ⟨rfl, rfl⟩ := bd_other hx hs hnm (by rw [hq]; exact hqs)
          clear hx hs hc ha hn he hnm hq
          go_enter Tryd.func24, Tryd.ntmps24
          go_wp2_with fail
          refine (cut_k st a b f _ (by omega) HO.out.1 HC.out).mono ?_
          rintro e w1 ⟨rfl, hb⟩
          have HB := Lib.hid hb
          have HO := Lib.hid (HO.out.below hb)
          clear hb
          go_wp2_with fail
          refine (plain_k ses true _ (by omega) HO.out.1 HS.out).mono ?_
          rintro e w' ⟨rfl, rfl⟩
          go_wp2_with fail
          refine (plain_k a true _ (by omega) HO.out.1 HA.out).mono ?_
          rintro e w' ⟨rfl, rfl⟩
          go_wp2_with fail
          refine (readHex_k b n 0 _ (by omega) HRd.out).mono ?_
          rintro e w' ⟨rfl, rfl⟩
          obtain ⟨w2, hrun1, hm2, hg2⟩ := (smap_made w1).store (t := 64) (e := 4) Tryd.underlying64 (by decide) st (by unfold maxLen; omega) (.bool true)
          have HB2 := Lib.hid ((box_below w1 (.map #[] 0)).grown hg2 (by simp) (fun k hk => by injection hk with hk; omega))
          have HO2 := Lib.hid (HO.out.below HB2.out)
          have HM2 := Lib.hid hm2
          clear hm2 hg2
          go_wp2_with fail
          refine (bind_k sec ses a q _ h1 h2 (by omega) HO2.out HQ.out).mono ?_
          rintro e w3 ⟨rfl, hb⟩
          have HM3 := Lib.hid (HM2.out.keep (hb.block _ HM2.out.lt))
          have HB3 := Lib.hid (HB2.out.trans (hb.mono HB2.out.size))
          clear hb
          go_wp2_with (at_delete; refine wpList_drop_s rfl _ _ q rfl HM3.out Tryd.underlying64 (by unfold maxLen; omega) rfl rfl ?_; intro w4 hm4 hg4; have hlk := hm4.look (e := 4) Tryd.underlying64 (zero_b _) st (by unfold maxLen; omega); have hzl : (delO (setO (fun _ => none) st (.bool true)) q st).getD (.bool false) = .bool true := (by unfold delO setO; rw [if_neg (fun k => hqs k.symm), if_pos rfl]; rfl); rw [hzl] at hlk; have HB4 := Lib.hid (HB3.out.grown hg4 (by have := HB3.out.size; omega) (fun k hk => by injection hk with hk; omega)); clear hm4 hg4 hzl)
          go_wp2_with fail
          go_ret2
          exact ⟨rfl, HB.out.trans (HB4.out.mono HB.out.size)⟩
      · obtain ⟨rfl, rfl⟩ := bd_none hx fun q hn => he (nm_parts hn hc).2.1
        have HRd := Lib.hid (And.intro hn (rdE_ok he))
        clear hx hs hc ha hn he
        go_enter Tryd.func24, Tryd.ntmps24
        go_wp2_with fail
        refine (cut_k st a b f _ (by omega) HO.out.1 HC.out).mono ?_
        rintro e w1 ⟨rfl, hb⟩
        have HB := Lib.hid hb
        have HO := Lib.hid (HO.out.below hb)
        clear hb
        go_wp2_with fail
        refine (plain_k ses true _ (by omega) HO.out.1 HS.out).mono ?_
        rintro e w' ⟨rfl, rfl⟩
        go_wp2_with fail
        refine (plain_k a true _ (by omega) HO.out.1 HA.out).mono ?_
        rintro e w' ⟨rfl, rfl⟩
        go_wp2_with fail
        refine (readHex_k b n 4 _ (by omega) HRd.out).mono ?_
        rintro e w' ⟨rfl, rfl⟩
        go_wp2_with fail
        go_ret2
        exact ⟨rfl, HB.out⟩
end Go.Proofs.YtbogmmdmfbcbnaaDoor
