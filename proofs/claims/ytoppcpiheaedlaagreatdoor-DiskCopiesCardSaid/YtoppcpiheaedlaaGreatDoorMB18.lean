/-
  The document's own disk: Crash.
-/
import Derived.Test.YtoppcpiheaedlaaGreatDoorMB7
import Derived.Test.YtoppcpiheaedlaaGreatDoorMB4
namespace Go.Proofs.YtoppcpiheaedlaaGreatDoor
open Go.RowKit
set_option linter.unusedVariables false
set_option linter.unusedSimpArgs false
attribute [local go_sem] sv nv
def crashA (s : Ds) (i : Nat) : Ds := { s with dir := (s.chs.take i).foldl chgF s.dir }
def crashB (s : Ds) (keep : List Int) (i : Nat) : Ds := { s with fls := (keptF keep (s.wrs.take i) 0).foldl keepF s.fls }
theorem keptF_app (keep : List Int) (w : Wr) : ∀ (l : List Wr) (n : Nat), keptF keep (l ++ [w]) n = keptF keep l n ++ if ((n + l.length : Nat) : Int) ∈ keep then [w] else []
 | [], n => by
  show (if (n : Int) ∈ keep then w :: keptF keep [] (n + 1) else keptF keep [] (n + 1)) = [] ++ _
  simp [keptF]
 | a :: l, n => by
  show (if (n : Int) ∈ keep then a :: keptF keep (l ++ [w]) (n + 1) else keptF keep (l ++ [w]) (n + 1)) = (if (n : Int) ∈ keep then a :: keptF keep l (n + 1) else keptF keep l (n + 1)) ++ _
  rw [keptF_app keep w l (n + 1), show n + 1 + l.length = n + (a :: l).length by simp; omega]
  split <;> rfl
theorem crashB_yes (s : Ds) (keep : List Int) (i : Nat) (hi : i < s.wrs.length) (hk : (i : Int) ∈ keep) : { crashB s keep i with fls := keepF (crashB s keep i).fls (s.wrs[i]) } = crashB s keep (i + 1) := by
 unfold crashB
 rw [List.take_succ_eq_append_getElem hi, keptF_app, List.length_take, Nat.min_eq_left (by omega), Nat.zero_add, if_pos hk, List.foldl_append]
 rfl
theorem crashB_no (s : Ds) (keep : List Int) (i : Nat) (hi : i < s.wrs.length) (hk : ¬ (i : Int) ∈ keep) : crashB s keep (i + 1) = crashB s keep i := by
 unfold crashB
 rw [List.take_succ_eq_append_getElem hi, keptF_app, List.length_take, Nat.min_eq_left (by omega), Nat.zero_add, if_neg hk, List.append_nil]
theorem RD.chgC {w : World} {q : Nat} {s : Ds} {x : RDv} (h : RD w q s x) {g n cap : Nat} (hv : x.vc = .slice (some ⟨g, 0, none⟩) n cap) (j : Nat) (hj : j < s.chs.length) :
 ∀ r u, (chC (s.chs[j]))[r]? = some u → w.cell? ((⟨g, j * 4, none⟩ : Addr).add r) = some u := by
 have hw := h.chs
 rw [hv] at hw
 have hn : n = s.chs.length := by
  rcases hw.2 with ⟨h0, _⟩ | ⟨_, _, _, h0, _⟩
  · cases h0
  · simp only [Value.slice.injEq] at h0; exact h0.2.1
 subst hn
 intro r u hu
 have hr : r < 4 := (List.getElem?_eq_some_iff.1 hu).1
 rw [Addr.add_lit]
 refine own_cell hw (j * 4 + r) u ?_
 rw [flat_get chC 4 chC_len s.chs j r hj hr]
 exact hu
theorem IntS.num {W : World} {a : Option Addr} {n cap : Nat} {l : List Int} (h : IntS W (.slice a n cap) l) (i : Nat) (hi : i < l.length) : ∃ b off, a = some ⟨b, off, none⟩ ∧ W.cell? ⟨b, off + i, none⟩ = some (.int .i64 (l.getD i 0)) := by
 obtain ⟨a', cap', e, h4⟩ := h
 simp only [Value.slice.injEq] at e
 obtain ⟨rfl, -, -⟩ := e
 rcases h4 with h4 | ⟨b, off, e, hc⟩
 · rw [h4] at hi; simp at hi
 · exact ⟨b, off, e, hc i hi⟩
theorem take_mem (l : List Int) (k : Nat) (hk : k < l.length) (v : Int) : decide (v ∈ l.take (k + 1)) = (decide (v ∈ l.take k) || decide (l.getD k 0 = v)) := by
 rw [List.take_succ_eq_append_getElem hk, List.getD, List.getElem?_eq_getElem hk, Option.getD_some]
 simp only [List.mem_append, List.mem_singleton, Bool.decide_or, eq_comm]
set_option maxRecDepth 100000 in
set_option maxHeartbeats 4000000 in
theorem refCrash (q : Nat) (s : Ds) (x : RDv) (n : Int) (kv : Value) (keep : List Int) (w : World) (h : RD w q s x) (hk : IntS w kv keep) (hko : Outside (mutB q x) kv) (hkl : keep.length ≤ 1000000) (hsm : s.dir.length + s.chs.length ≤ 1000000) :
 Calls Tryz.prog 49 #[.pointer (some ⟨q, 0, none⟩), .int .i64 n, kv] w fun e w' => e = .returned (.tuple #[]) ∧ ∃ x', RD w' q (crashF s n keep) x' ∧ Turn q x x' w w' := by
 have hmx : Tryz.prog.follows .mixedOrders = true := by kernel_rfl
 have H := Lib.hid h
 have HK := Lib.hid hk
 have HKo := Lib.hid hko
 obtain ⟨ak, ck, rfl⟩ : ∃ a c, kv = .slice a keep.length c := by obtain ⟨a, c, e, _⟩ := hk; exact ⟨a, c, e⟩
 obtain ⟨nk, Hnk⟩ : ∃ y, Hid (keep.length = y) := ⟨_, rfl⟩
 rw [Hnk.out] at hkl ⊢
 have hnki : (nk : Int) ≤ 1000000 := by omega
 obtain ⟨ac, cc, evc⟩ := own_form h.chs
 obtain ⟨nc, Hnc⟩ : ∃ y, Hid (s.chs.length = y) := ⟨_, rfl⟩
 obtain ⟨nw, Hnw⟩ : ∃ y, Hid (s.wrs.length = y) := ⟨_, rfl⟩
 have hncs := h.small.2.1
 have hnws := h.small.2.2.2
 have Hsm := Lib.hid hsm
 rw [Hnc.out] at evc hncs
 rw [Hnw.out] at hnws
 have Hvc := Lib.hid evc
 have hnci : (nc : Int) ≤ 1000000 := by omega
 have hnwi : (nw : Int) ≤ 1000000 := by omega
 clear h hk hko hkl evc hncs hnws hsm
 go_enter Tryz.func49, Tryz.ntmps49
 go_wp2
 go_loopw [6] (fun t6 wr => ∃ (i : Nat) (v : Value), t6 = .int .i64 i ∧ i ≤ nc ∧ (i = 0 ∨ (i : Int) ≤ n) ∧ Hid (RD wr q (crashA s i) { x with vd := v }) ∧ Hid (But (fun k => k = q) w wr) ∧ Hid (v.ownBlock = x.vd.ownBlock ∨ ∀ j, v.ownBlock = some j → w.heap.size ≤ j)) (fun t6 _ => nc - (intOf t6).toNat)
 case atStart => exact ⟨0, x.vd, rfl, by omega, .inl rfl, H.out, But.refl' _ _, .inl rfl⟩
 case round =>
  obtain ⟨i, v, rfl, hin, hiN, HRi, HBi, Hvi⟩ := hrel
  have c2 := HRi.out.cell 2 x.vc rfl
  rw [Hvc.out] at c2
  by_cases hgo : i < nc ∧ (i : Int) < n
  · obtain ⟨hlt, hltn⟩ := hgo
    have hltI : (i : Int) < (nc : Int) := by omega
    have hbi : ¬ ((nc : Int) ≤ (i : Int)) := by omega
    have hi1 : i < s.chs.length := by rw [Hnc.out]; exact hlt
    obtain ⟨g, kc, e1⟩ := own_some HRi.out.chs (show 0 < (crashA s i).chs.length by show 0 < s.chs.length; omega)
    have e2 : Value.slice ac nc cc = .slice (some ⟨g, 0, none⟩) nc kc := Hvc.out.symm.trans (by rw [show x.vc = _ from e1]; show Value.slice _ s.chs.length _ = _; rw [Hnc.out])
    simp only [Value.slice.injEq, true_and] at e2
    obtain ⟨rfl, rfl⟩ := e2
    have hcs : ∀ r u, (chC (s.chs[i]))[r]? = some u → wr.cell? ((⟨g, i * 4, none⟩ : Addr).add r) = some u := HRi.out.chgC (s := crashA s i) Hvc.out i hi1
    have c1 := HRi.out.cell 1 v rfl
    obtain ⟨av, cv, ev⟩ := own_form HRi.out.dir
    replace ev : v = .slice av (crashA s i).dir.length cv := ev
    have hsn : crashA s (i + 1) = { crashA s i with dir := chgF (crashA s i).dir (s.chs[i]) } := by unfold crashA; rw [foldl_snoc _ _ _ hi1]
    have hlen := foldl_len (s.chs.take i) s.dir
    have hlen2 := foldl_len (s.chs.take (i + 1)) s.dir
    rw [List.length_take] at hlen hlen2
    have hld : (crashA s (i + 1)).dir.length ≤ 1000000 := by show ((s.chs.take (i + 1)).foldl chgF s.dir).length ≤ _; have := Hsm.out; omega
    have hids := foldl_ids s.fls.length (s.chs.take (i + 1)) s.dir H.out.wf.dir (fun c hc h0 => H.out.wf.chs c (List.mem_of_mem_take hc) h0)
    have hls : (crashA s i).dir.length ≤ 1000000000 := by show ((s.chs.take i).foldl chgF s.dir).length ≤ _; have := Hsm.out; omega
    obtain ⟨c, hc⟩ : ∃ y, s.chs[i] = y := ⟨_, rfl⟩
    rw [hc] at hcs hsn
    have Hsn := Lib.hid hsn
    have Hld := Lib.hid hld
    have Hids : Hid (∀ e ∈ (crashA s (i + 1)).dir, e.2 < s.fls.length) := hids
    have HCH : Hid (∀ W, Grows wr W → Calls Tryz.prog 91 #[v, .agg #[nv c.kind, sv c.a, sv c.b, nv c.id]] W fun e w' => ∃ v', e = .returned v' ∧ EntR w' v' (chgF (crashA s i).dir c) ∧ Grows W w' ∧ (v'.ownBlock = v.ownBlock ∨ ∀ j, v'.ownBlock = some j → W.heap.size ≤ j)) := fun W g => refChange v _ c W (own_grows HRi.out.dir g) hls
    have ck0 : wr.cell? ⟨g, i * 4, none⟩ = some (nv c.kind) := by have := hcs 0 _ rfl; rw [Addr.add_lit, Nat.add_zero] at this; exact this
    have ck1 : wr.cell? ⟨g, i * 4 + 1, none⟩ = some (sv c.a) := by have := hcs 1 _ rfl; rw [Addr.add_lit] at this; exact this
    have ck2 : wr.cell? ⟨g, i * 4 + 2, none⟩ = some (sv c.b) := by have := hcs 2 _ rfl; rw [Addr.add_lit] at this; exact this
    have ck3 : wr.cell? ⟨g, i * 4 + 3, none⟩ = some (nv c.id) := by have := hcs 3 _ rfl; rw [Addr.add_lit] at this; exact this
    obtain ⟨B, HB⟩ : ∃ y, Hid (wr.heap.size = y) := ⟨_, rfl⟩
    have hi9 : i + 1 ≤ nc := hlt
    have hn9 : ((i + 1 : Nat) : Int) ≤ n := by omega
    obtain ⟨dl, Hdl⟩ : ∃ y, Hid (chgF (crashA s i).dir c = y) := ⟨_, rfl⟩
    rw [Hdl.out] at HCH Hsn
    rw [ev] at c1 HCH
    have Hev := Lib.hid ev
    obtain ⟨nd, Hnd⟩ : ∃ y, Hid ((crashA s i).dir.length = y) := ⟨_, rfl⟩
    rw [Hnd.out] at c1 HCH
    unfold nv sv at HCH
    unfold nv at ck0 ck3
    unfold sv at ck1 ck2
    clear hcs e1 ev hsn hlen hlen2 hld hids hls hc hin hiN hlt hi1
    go_wp2
    have cXa := fun X (hX : Grows _ X) => And.intro (Grows.cell' hX c1) (And.intro (Grows.cell' hX c2) (And.intro (Grows.cell' hX ck0) (And.intro (Grows.cell' hX ck1) (And.intro (Grows.cell' hX ck2) (Grows.cell' hX ck3)))))
    refine specs_last 15
     #[[], [], [1], [1, 2], [1, 2, 3], [], [5], [5, 6], [5, 6, 7], [], [5, 6, 7, 8, 9], [5, 6, 7, 8, 9, 10], [1, 2, 3, 4, 5, 6, 7, 8, 9, 10, 11], [0, 1, 2, 3, 4, 5, 6, 7, 8, 9, 10, 11, 12], [0, 1, 2, 3, 4, 5, 6, 7, 8, 9, 10, 11, 12, 13], [0, 1, 2, 3, 4, 5, 6, 7, 8, 9, 10, 11, 12, 13, 14]] #[[0], [0], [], [], [], [0], [], [], [], [6], [], [], [], [], [], []] #[true, true, true, true, true, true, true, true, true, true, true, true, true, true, true, true]
     ((.val ?va0) :: (.val ?va1) :: (.val ?va2) :: (.val ?va3) :: (.val ?va4) :: (.val ?va5) :: (.val ?va6) :: (.val ?va7) :: (.val ?va8) :: (.val ?va9) :: (.val ?va10) :: (.val ?va11) :: (.pred (fun v W => EntR W v dl ∧ (v.ownBlock = Value.ownBlock (.slice av nd cv) ∨ ∀ j, v.ownBlock = some j → B ≤ j)) (fun v a b g h => ⟨own_grows h.1 g, h.2⟩)) :: (.val ?va13) :: (.val ?va14) :: (.any) :: []).toArray
     hmx ?chka ?grda rfl ?stpa ?rsta
    case chka => rfl
    case stpa =>
     refine ⟨?_, ?_, ?_, ?_, ?_, ?_, ?_, ?_, ?_, ?_, ?_, ?_, ?_, ?_, ?_, ?_, trivial⟩
     · refine stepO 0 ?va0 rfl (fun _ _ => rfl) rfl (fun _ => rfl) (by decide) ?_; show (.pointer (some ⟨q, 0, none⟩) : Value) = _; rfl
     · refine stepO 0 ?va1 rfl (fun _ _ => rfl) rfl (fun _ => rfl) (by decide) ?_; show (.pointer (some ⟨q, 0, none⟩) : Value) = _; rfl
     · refine stepR (o := ⟨_, .nilCheck (.tmp 27), _, _, _, _⟩) ?va2 rfl rfl (fun _ => rfl) fun ρ X hc hf hgl hX hp ho => ?_; have k27 : ρ (.tmp 27) = ?va1 := hp 1 (by decide); clear hp ho hX; go_simp; (all_goals rfl)
     · refine stepR (o := ⟨_, .fieldAddr 76 (.tmp 28) 1, _, _, _, _⟩) ?va3 rfl rfl (fun _ => rfl) fun ρ X hc hf hgl hX hp ho => ?_; have k28 : ρ (.tmp 28) = ?va2 := hp 2 (by decide); clear hp ho hX; go_simp; (all_goals rfl)
     · refine stepR (o := ⟨_, .load 71 (.tmp 29), _, _, _, _⟩) ?va4 rfl rfl (fun _ => rfl) fun ρ X hc hf hgl hX hp ho => ?_; have k29 : ρ (.tmp 29) = ?va3 := hp 3 (by decide); have cX := cXa X hX; clear hp ho hX; go_simp; (all_goals rfl)
     · refine stepO 0 ?va5 rfl (fun _ _ => rfl) rfl (fun _ => rfl) (by decide) ?_; show (.pointer (some ⟨q, 0, none⟩) : Value) = _; rfl
     · refine stepR (o := ⟨_, .nilCheck (.tmp 31), _, _, _, _⟩) ?va6 rfl rfl (fun _ => rfl) fun ρ X hc hf hgl hX hp ho => ?_; have k31 : ρ (.tmp 31) = ?va5 := hp 5 (by decide); clear hp ho hX; go_simp; (all_goals rfl)
     · refine stepR (o := ⟨_, .fieldAddr 76 (.tmp 32) 2, _, _, _, _⟩) ?va7 rfl rfl (fun _ => rfl) fun ρ X hc hf hgl hX hp ho => ?_; have k32 : ρ (.tmp 32) = ?va6 := hp 6 (by decide); clear hp ho hX; go_simp; (all_goals rfl)
     · refine stepR (o := ⟨_, .load 72 (.tmp 33), _, _, _, _⟩) ?va8 rfl rfl (fun _ => rfl) fun ρ X hc hf hgl hX hp ho => ?_; have k33 : ρ (.tmp 33) = ?va7 := hp 7 (by decide); have cX := cXa X hX; clear hp ho hX; go_simp; (all_goals rfl)
     · refine stepO 6 ?va9 rfl (fun _ _ => rfl) rfl (fun _ => rfl) (by decide) ?_; show (.int .i64 (i : Int) : Value) = _; rfl
     · refine stepR (o := ⟨_, .indexAddr 72 (.tmp 34) (.tmp 35), _, _, _, _⟩) ?va10 rfl rfl (fun _ => rfl) fun ρ X hc hf hgl hX hp ho => ?_; have k34 : ρ (.tmp 34) = ?va8 := hp 8 (by decide); have k35 : ρ (.tmp 35) = ?va9 := hp 9 (by decide); clear hp ho hX; go_simp; (all_goals try go_bits); (all_goals try simp only [IntWalk.iteOmega]); (all_goals try go_bits); (all_goals rfl)
     · refine stepR (o := ⟨_, .load 165 (.tmp 36), _, _, _, _⟩) ?va11 rfl rfl (fun _ => rfl) fun ρ X hc hf hgl hX hp ho => ?_; have k36 : ρ (.tmp 36) = ?va10 := hp 10 (by decide); have cX := cXa X hX; clear hp ho hX; go_simp; (all_goals rfl)
     · refine step_intro rfl rfl fun ρ X hc hf hgl hX hp ho => ?_
       change StepOk _ ⟨_, .call { callee := .value (.func 91), args := #[.tmp 30, .tmp 37], argTypes := #[71, 165] }, _, _, _, _⟩ _ _ _
       have k30 : ρ (.tmp 30) = ?va4 := hp 4 (by decide)
       have k37 : ρ (.tmp 37) = ?va11 := hp 11 (by decide)
       clear hp ho
       refine StepOk.of_call (f := 91) (args := #[.slice av nd cv, .agg #[.int .i64 (c.kind : Int), .string ⟨c.a.toArray⟩, .string ⟨c.b.toArray⟩, .int .i64 (c.id : Int)]]) (w' := X) ?_ (HCH.out X hX) ?_
       · go_simp
         all_goals try rfl
       · rintro e w' ⟨v', rfl, hv', hg', hb'⟩
         exact ⟨v', rfl, ⟨hv', hb'.imp id fun h j hj => by have h1 := h j hj; have h2 := hX.size; have h3 := HB.out; omega⟩, hg'⟩
     · refine stepR (o := ⟨_, .nilCheck (.tmp 26), _, _, _, _⟩) ?va13 rfl rfl (fun _ => rfl) fun ρ X hc hf hgl hX hp ho => ?_; have k26 : ρ (.tmp 26) = ?va0 := hp 0 (by decide); clear hp ho hX; go_simp; (all_goals rfl)
     · refine stepR (o := ⟨_, .fieldAddr 76 (.tmp 39) 1, _, _, _, _⟩) ?va14 rfl rfl (fun _ => rfl) fun ρ X hc hf hgl hX hp ho => ?_; have k39 : ρ (.tmp 39) = ?va13 := hp 13 (by decide); clear hp ho hX; go_simp; (all_goals rfl)
     · exact last_intro rfl
    case grda => rfl
    case rsta =>
     intro a0 X hb
     obtain ⟨x38, hx38⟩ : ∃ x, a0.tmps.getD 38 undef = x := ⟨_, rfl⟩
     have p38 := hb.done' 12 38 rfl rfl
     rw [hx38] at p38
     have hfr := hb.frame ((26, ?va0) :: (27, ?va1) :: (28, ?va2) :: (29, ?va3) :: (30, ?va4) :: (31, ?va5) :: (32, ?va6) :: (33, ?va7) :: (34, ?va8) :: (35, ?va9) :: (36, ?va10) :: (37, ?va11) :: (38, x38) :: (39, ?va13) :: (40, ?va14) :: []) rfl ⟨hb.done' 0 26 rfl rfl, hb.done' 1 27 rfl rfl, hb.done' 2 28 rfl rfl, hb.done' 3 29 rfl rfl, hb.done' 4 30 rfl rfl, hb.done' 5 31 rfl rfl, hb.done' 6 32 rfl rfl, hb.done' 7 33 rfl rfl, hb.done' 8 34 rfl rfl, hb.done' 9 35 rfl rfl, hb.done' 10 36 rfl rfl, hb.done' 11 37 rfl rfl, hx38, hb.done' 13 39 rfl rfl, hb.done' 14 40 rfl rfl, trivial⟩
     simp only [updL, ↓reduceIte, Nat.reduceEqDiff, Nat.reduceAdd, Nat.zero_add] at hfr
     have HX := Lib.hid hb.ext
     clear hb cXa
     subst hfr
     change StepOk _ { dst := _, op := Op.store 71 (Operand.tmp 40) (Operand.tmp 38), type := _, pos := _, after := _, guard := _ } _ _ _
     obtain ⟨pe, pb⟩ := p38
     obtain ⟨a8, c8, rfl⟩ := own_form pe
     have hRX := HRi.out.grows HX.out
     have cX := HX.out.cell' c1
     have fX := hRX.frozen 1
     have hset := hRX.setDir _ dl pe (by have h1 := Hids.out; rw [Hsn.out] at h1; exact h1) (by have h1 := Hld.out; rw [Hsn.out] at h1; exact h1)
     have HR9 : Hid (RD (X.setCell ⟨q, 1, none⟩ (.slice a8 dl.length c8)) q (crashA s (i + 1)) { x with vd := .slice a8 dl.length c8 }) := by show RD _ _ _ _; rw [Hsn.out]; exact hset
     have HB9 : Hid (But (fun k => k = q) w (X.setCell ⟨q, 1, none⟩ (.slice a8 dl.length c8))) := But.setCell (HBi.out.trans' (But.ofGrows HX.out)) _ _ rfl
     have HV9 : Hid (Value.ownBlock (.slice a8 dl.length c8) = x.vd.ownBlock ∨ ∀ j, Value.ownBlock (.slice a8 dl.length c8) = some j → w.heap.size ≤ j) := by
      rcases pb with h | h
      · have h2 := Hvi.out; rw [show v = _ from Hev.out, Hnd.out] at h2; show _ ∨ _; rw [h]; exact h2
      · exact .inr fun j hj => by have h1 := h j hj; have h2 := HBi.out.size; have h3 := HB.out; omega
     clear hset pe pb hRX HX c1 c2 ck0 ck1 ck2 ck3
     unfold StepOk
     simp [go_sem, execOp, cX, fX]
     go_wp2
     go_roundw
     case rel => exact ⟨i + 1, _, by simp, hi9, .inr hn9, HR9.out, HB9.out, HV9.out⟩
     case measure => simp [intOf]; omega
  · have Hend : Hid (crashA s i = { s with dir := (s.chs.take n.toNat).foldl chgF s.dir }) := by
     show _ = _
     unfold crashA
     rcases Nat.lt_or_ge i nc with hl | hl
     · have : i = n.toNat := by omega
       rw [this]
     · rw [List.take_of_length_le (by rw [Hnc.out]; exact hl), List.take_of_length_le (show s.chs.length ≤ n.toNat by rw [Hnc.out]; omega)]
    have hno := HRi.out.noChs
    have hT := Turn.dir (x := x) v Hvi.out (But.setCell HBi.out ⟨q, 2, none⟩ (.slice none 0 0) rfl)
    rw [Hend.out] at hno
    obtain ⟨s2, Hs2⟩ : ∃ y : Ds, Hid (y = ({ s with dir := (s.chs.take n.toNat).foldl chgF s.dir, chs := [] } : Ds)) := ⟨_, Lib.hid rfl⟩
    obtain ⟨x2, Hx2⟩ : ∃ y : RDv, Hid (y = ({ x with vd := v, vc := .slice none 0 0 } : RDv)) := ⟨_, Lib.hid rfl⟩
    rw [← Hx2.out] at hT
    have hno2 : RD (wr.setCell ⟨q, 2, none⟩ (.slice none 0 0)) q s2 x2 := by rw [Hs2.out, Hx2.out]; exact hno
    have HR2 := Lib.hid hno2
    have HT2 := Lib.hid hT
    have f2 := HRi.out.frozen 2
    have Hw2 : Hid (s2.wrs.length = nw) := by show _ = _; rw [Hs2.out]; exact Hnw.out
    have hKA := HK.out.but (But.setCell HBi.out ⟨q, 2, none⟩ (.slice none 0 0) rfl) (fun b off sp m c e hm => by have := HKo.out b off sp m c e hm; exact fun e' => this (.inl e'))
    have HKA := Lib.hid hKA
    have hEq : ¬ (i < nc) ∨ ¬ ((i : Int) < n) := by omega
    clear hno hno2 hT hKA
    by_cases hlt : i < nc
    · have hltI : (i : Int) < (nc : Int) := by omega
      have hltn : ¬ (i : Int) < n := by omega
      clear hEq hgo
      go_wp2
      obtain ⟨wB, HwB⟩ : ∃ y, Hid (wr.setCell ⟨q, 2, none⟩ (.slice none 0 0) = y) := ⟨_, rfl⟩
      rw [HwB.out] at HR2 HT2 HKA ⊢
      go_loopw [7] (fun t7 wz => ∃ (i : Nat) (sp : List (List Value)), t7 = .int .i64 i ∧ i ≤ nw ∧ Hid (RD wz q (crashB s2 keep i) { x2 with sp := sp }) ∧ Hid (∀ k, useB q { x2 with sp := sp } k → useB q x2 k) ∧ Hid (Turn q x { x2 with sp := sp } w wz) ∧ Hid (IntS wz (.slice ak keep.length ck) keep)) (fun t7 _ => nw - (intOf t7).toNat)
      case atStart => exact ⟨0, x2.sp, rfl, by omega, HR2.out, fun k hk => hk, HT2.out, HKA.out⟩
      case round =>
       obtain ⟨j, sp, rfl, hjn, HRj, Huj, HTj, HKj⟩ := hrel
       have c4 := HRj.out.cell 4 x2.vw rfl
       obtain ⟨aw, cw, evw⟩ := own_form (show wr.ownsRow 0 168 3 x2.vw s2.wrs.length _ from HRj.out.wrs)
       rw [Hw2.out] at evw
       rw [evw] at c4
       have Hevw := Lib.hid evw
       clear evw
       by_cases hlj : j < nw
       · have hljI : (j : Int) < (nw : Int) := by omega
         have hjb : (j : Int) ≤ 1000000 := by omega
         have Hj := Lib.hid hlj
         clear hjn hlj
         go_wp2
         go_loopw [8, 9] (fun t8 t9 wy => wy = wr ∧ ∃ k : Nat, t9 = .int .i64 k ∧ k ≤ nk ∧ t8 = .bool (decide ((j : Int) ∈ keep.take k))) (fun _ t9 _ => nk - (intOf t9).toNat)
         case atStart => exact ⟨rfl, 0, rfl, by omega, by simp⟩
         case round =>
          obtain ⟨hwe, k, rfl, hkn, rfl⟩ := hrel
          subst hwe
          by_cases hlk : k < nk
          · have hlkI : (k : Int) < (nk : Int) := by omega
            have hbk : ¬ ((nk : Int) ≤ (k : Int)) := by omega
            have hk1 : k < keep.length := by rw [Hnk.out]; exact hlk
            obtain ⟨bk, ok, rfl, hck⟩ := HKj.out.num k hk1
            have hstep := take_mem keep k hk1 (j : Int)
            obtain ⟨kv, hkv⟩ : ∃ y, keep.getD k 0 = y := ⟨_, rfl⟩
            rw [hkv] at hck hstep
            have Hst := Lib.hid hstep
            have Hk := Lib.hid hlk
            obtain ⟨bb, hbb⟩ : ∃ y, decide ((j : Int) ∈ keep.take k) = y := ⟨_, rfl⟩
            rw [hbb] at Hst ⊢
            clear hstep hkv hk1 hlk hkn hbb
            cases bb with
            | true =>
             go_wp2
             go_roundw
             case rel => exact ⟨by first | rfl | trivial, k + 1, by simp, Hk.out, by rw [Hst.out]; rfl⟩
             case measure => have := Hk.out; simp [intOf]; omega
            | false =>
             by_cases hkj : kv = (j : Int)
             · subst hkj
               go_wp2
               go_roundw
               case rel => exact ⟨by first | rfl | trivial, k + 1, by simp, Hk.out, by rw [Hst.out]; simp⟩
               case measure => have := Hk.out; simp [intOf]; omega
             · have hde : decide (kv = (j : Int)) = false := decide_eq_false hkj
               go_wp2
               go_roundw
               case rel => exact ⟨by first | rfl | trivial, k + 1, by simp, Hk.out, by rw [Hst.out, hde]; first | rfl | (rw [show (kv == (j : Int)) = false by have h9 := of_decide_eq_false hde; simpa using h9]; rfl)⟩
               case measure => have := Hk.out; simp [intOf]; omega
          · have hlkI : ¬ (k : Int) < (nk : Int) := by omega
            have hall : keep.take k = keep := List.take_of_length_le (by rw [Hnk.out]; omega)
            rw [hall]
            have hj1 : j < s2.wrs.length := by rw [Hw2.out]; exact Hj.out
            have hyes := crashB_yes s2 keep j hj1
            have hno := crashB_no s2 keep j hj1
            by_cases hmem : (j : Int) ∈ keep
            · have Hys := Lib.hid (hyes hmem)
              rw [decide_eq_true hmem]
              have hbi : ¬ ((nw : Int) ≤ (j : Int)) := by have := Hj.out; omega
              have hjI : (j : Int) < (nw : Int) := by omega
              obtain ⟨gw, kw, e1⟩ := own_some HRj.out.wrs (show 0 < (crashB s2 keep j).wrs.length by show 0 < s2.wrs.length; omega)
              have e2 : Value.slice aw nw cw = .slice (some ⟨gw, 0, none⟩) nw kw := Hevw.out.symm.trans (by rw [show x2.vw = _ from e1]; show Value.slice _ s2.wrs.length _ = _; rw [Hw2.out])
              simp only [Value.slice.injEq, true_and] at e2
              obtain ⟨rfl, rfl⟩ := e2
              have hcs : ∀ r u, (wrC (s2.wrs[j], ({ x2 with sp := sp } : RDv).ps.getD j undef))[r]? = some u → wr.cell? ((⟨gw, j * 3, none⟩ : Addr).add r) = some u := HRj.out.writC (s := crashB s2 keep j) Hevw.out j hj1
              have hwf := HRj.out.wf.wrs (s2.wrs[j]) (List.getElem_mem hj1)
              have hby : Byt wr (({ x2 with sp := sp } : RDv).ps.getD j undef) (s2.wrs[j]).p := HRj.out.pend j hj1
              have hpm : x2.ps.getD j undef ∈ x2.ps := getD_mem x2.ps j undef (by rw [HR2.out.psl]; exact hj1)
              have hbo := HRj.out.out.1 _ hpm
              obtain ⟨c, hc⟩ : ∃ y, s2.wrs[j] = y := ⟨_, rfl⟩
              rw [hc] at hcs hwf hby Hys
              obtain ⟨u, hu⟩ : ∃ y, x2.ps.getD j undef = y := ⟨_, rfl⟩
              have hu' : ({ x2 with sp := sp } : RDv).ps.getD j undef = u := hu
              rw [hu'] at hcs hby
              rw [hu] at hpm hbo
              obtain ⟨wi, wn, wp⟩ := c
              obtain ⟨au, cu, rfl⟩ := hby.slice
              have HKE := Lib.hid (refKeep q (crashB s2 keep j) { x2 with sp := sp } ⟨wi, wn, wp⟩ (.slice au wp.length cu) wr HRj.out hwf.1 hwf.2.1 hwf.2.2 hby hbo (fun k hk => .inr (.inr (.inl ⟨_, hpm, hk⟩))))
              obtain ⟨lp, Hlp⟩ : ∃ y, Hid (wp.length = y) := ⟨_, rfl⟩
              rw [Hlp.out] at hcs HKE
              have c30 : wr.cell? ⟨gw, j * 3, none⟩ = some (.int .i64 (wi : Int)) := by have := hcs 0 _ rfl; rw [Addr.add_lit, Nat.add_zero] at this; exact this
              have c31 : wr.cell? ⟨gw, j * 3 + 1, none⟩ = some (.int .i64 (wn : Int)) := by have := hcs 1 _ rfl; rw [Addr.add_lit] at this; exact this
              have c32 : wr.cell? ⟨gw, j * 3 + 2, none⟩ = some (.slice au lp cu) := by have := hcs 2 _ rfl; rw [Addr.add_lit] at this; exact this
              unfold nv at HKE
              clear hcs hwf hby hpm hbo hyes hno hc hu hu' hj1 e1 hmem hall hlk hkn
              go_wp2_with fail
              refine HKE.out.mono ?_
              rintro e w4 ⟨rfl, sp', hR4, hT4, hU4⟩
              have HR4 : Hid (RD w4 q (crashB s2 keep (j + 1)) { x2 with sp := sp' }) := by show RD _ _ _ _; rw [← Hys.out]; exact hR4
              have HT4 : Hid (Turn q x { x2 with sp := sp' } w w4) := HTj.out.trans hT4
              have Hu4 : Hid (∀ k, useB q { x2 with sp := sp' } k → useB q x2 k) := fun k hk => Huj.out k (hU4 k hk)
              have HK4 : Hid (IntS w4 (.slice ak keep.length ck) keep) := HK.out.but HT4.out.but HKo.out
              clear hR4 hT4 hU4 HKE
              go_wp2
              go_roundw
              case rel => exact ⟨j + 1, sp', by simp, Hj.out, HR4.out, Hu4.out, HT4.out, HK4.out⟩
              case measure => have := Hj.out; simp [intOf]; omega
            · have Hno := Lib.hid (hno hmem)
              rw [decide_eq_false hmem]
              clear hyes hno hj1 hmem hall hlk hkn
              go_wp2
              go_roundw
              case rel => exact ⟨j + 1, sp, by simp, Hj.out, by show RD _ _ _ _; rw [Hno.out]; exact HRj.out, Huj.out, HTj.out, HKj.out⟩
              case measure => have := Hj.out; simp [intOf]; omega
       · have hljI : ¬ (j : Int) < (nw : Int) := by omega
         have hset := HRj.out.setWr (.slice none 0 0) [] (fun e he => by cases he) (by simp) (World.ownsRow_nil _ _ _ _) (fun k hk => by simp [Value.ownBlock] at hk) w.heap.size (fun k hk => by simp [Value.ownBlock] at hk) w (Nat.le_refl _) x HTj.out
         have HS := Lib.hid hset
         have f4 := HRj.out.frozen 4
         have c6 := HS.out.1.cell 6 (.bool s2.armed) rfl
         have f6 := HS.out.1.frozen 6
         have hh := HS.out.1.setHead 6 (.bool false) { crashB s2 keep j with wrs := [], armed := false } rfl rfl HRj.out.aft
         have HH := Lib.hid hh
         have hEnd : ({ crashB s2 keep j with wrs := [], armed := false } : Ds) = crashF s n keep := by
          unfold crashB crashF
          rw [List.take_of_length_le (by rw [Hw2.out]; omega), Hs2.out]
         have HEnd := Lib.hid hEnd
         clear hset hh hEnd hjn hlj
         go_wp2
         go_end0
         exact ⟨rfl, _, by rw [← HEnd.out]; exact HH.out.1, HS.out.2.trans (Turn.ofBut HH.out.2)⟩
    · have hltI : ¬ (i : Int) < (nc : Int) := by omega
      clear hEq hgo
      go_wp2
      obtain ⟨wB, HwB⟩ : ∃ y, Hid (wr.setCell ⟨q, 2, none⟩ (.slice none 0 0) = y) := ⟨_, rfl⟩
      rw [HwB.out] at HR2 HT2 HKA ⊢
      go_loopw [7] (fun t7 wz => ∃ (i : Nat) (sp : List (List Value)), t7 = .int .i64 i ∧ i ≤ nw ∧ Hid (RD wz q (crashB s2 keep i) { x2 with sp := sp }) ∧ Hid (∀ k, useB q { x2 with sp := sp } k → useB q x2 k) ∧ Hid (Turn q x { x2 with sp := sp } w wz) ∧ Hid (IntS wz (.slice ak keep.length ck) keep)) (fun t7 _ => nw - (intOf t7).toNat)
      case atStart => exact ⟨0, x2.sp, rfl, by omega, HR2.out, fun k hk => hk, HT2.out, HKA.out⟩
      case round =>
       obtain ⟨j, sp, rfl, hjn, HRj, Huj, HTj, HKj⟩ := hrel
       have c4 := HRj.out.cell 4 x2.vw rfl
       obtain ⟨aw, cw, evw⟩ := own_form (show wr.ownsRow 0 168 3 x2.vw s2.wrs.length _ from HRj.out.wrs)
       rw [Hw2.out] at evw
       rw [evw] at c4
       have Hevw := Lib.hid evw
       clear evw
       by_cases hlj : j < nw
       · have hljI : (j : Int) < (nw : Int) := by omega
         have hjb : (j : Int) ≤ 1000000 := by omega
         have Hj := Lib.hid hlj
         clear hjn hlj
         go_wp2
         go_loopw [8, 9] (fun t8 t9 wy => wy = wr ∧ ∃ k : Nat, t9 = .int .i64 k ∧ k ≤ nk ∧ t8 = .bool (decide ((j : Int) ∈ keep.take k))) (fun _ t9 _ => nk - (intOf t9).toNat)
         case atStart => exact ⟨rfl, 0, rfl, by omega, by simp⟩
         case round =>
          obtain ⟨hwe, k, rfl, hkn, rfl⟩ := hrel
          subst hwe
          by_cases hlk : k < nk
          · have hlkI : (k : Int) < (nk : Int) := by omega
            have hbk : ¬ ((nk : Int) ≤ (k : Int)) := by omega
            have hk1 : k < keep.length := by rw [Hnk.out]; exact hlk
            obtain ⟨bk, ok, rfl, hck⟩ := HKj.out.num k hk1
            have hstep := take_mem keep k hk1 (j : Int)
            obtain ⟨kv, hkv⟩ : ∃ y, keep.getD k 0 = y := ⟨_, rfl⟩
            rw [hkv] at hck hstep
            have Hst := Lib.hid hstep
            have Hk := Lib.hid hlk
            obtain ⟨bb, hbb⟩ : ∃ y, decide ((j : Int) ∈ keep.take k) = y := ⟨_, rfl⟩
            rw [hbb] at Hst ⊢
            clear hstep hkv hk1 hlk hkn hbb
            cases bb with
            | true =>
             go_wp2
             go_roundw
             case rel => exact ⟨by first | rfl | trivial, k + 1, by simp, Hk.out, by rw [Hst.out]; rfl⟩
             case measure => have := Hk.out; simp [intOf]; omega
            | false =>
             by_cases hkj : kv = (j : Int)
             · subst hkj
               go_wp2
               go_roundw
               case rel => exact ⟨by first | rfl | trivial, k + 1, by simp, Hk.out, by rw [Hst.out]; simp⟩
               case measure => have := Hk.out; simp [intOf]; omega
             · have hde : decide (kv = (j : Int)) = false := decide_eq_false hkj
               go_wp2
               go_roundw
               case rel => exact ⟨by first | rfl | trivial, k + 1, by simp, Hk.out, by rw [Hst.out, hde]; first | rfl | (rw [show (kv == (j : Int)) = false by have h9 := of_decide_eq_false hde; simpa using h9]; rfl)⟩
               case measure => have := Hk.out; simp [intOf]; omega
          · have hlkI : ¬ (k : Int) < (nk : Int) := by omega
            have hall : keep.take k = keep := List.take_of_length_le (by rw [Hnk.out]; omega)
            rw [hall]
            have hj1 : j < s2.wrs.length := by rw [Hw2.out]; exact Hj.out
            have hyes := crashB_yes s2 keep j hj1
            have hno := crashB_no s2 keep j hj1
            by_cases hmem : (j : Int) ∈ keep
            · have Hys := Lib.hid (hyes hmem)
              rw [decide_eq_true hmem]
              have hbi : ¬ ((nw : Int) ≤ (j : Int)) := by have := Hj.out; omega
              have hjI : (j : Int) < (nw : Int) := by omega
              obtain ⟨gw, kw, e1⟩ := own_some HRj.out.wrs (show 0 < (crashB s2 keep j).wrs.length by show 0 < s2.wrs.length; omega)
              have e2 : Value.slice aw nw cw = .slice (some ⟨gw, 0, none⟩) nw kw := Hevw.out.symm.trans (by rw [show x2.vw = _ from e1]; show Value.slice _ s2.wrs.length _ = _; rw [Hw2.out])
              simp only [Value.slice.injEq, true_and] at e2
              obtain ⟨rfl, rfl⟩ := e2
              have hcs : ∀ r u, (wrC (s2.wrs[j], ({ x2 with sp := sp } : RDv).ps.getD j undef))[r]? = some u → wr.cell? ((⟨gw, j * 3, none⟩ : Addr).add r) = some u := HRj.out.writC (s := crashB s2 keep j) Hevw.out j hj1
              have hwf := HRj.out.wf.wrs (s2.wrs[j]) (List.getElem_mem hj1)
              have hby : Byt wr (({ x2 with sp := sp } : RDv).ps.getD j undef) (s2.wrs[j]).p := HRj.out.pend j hj1
              have hpm : x2.ps.getD j undef ∈ x2.ps := getD_mem x2.ps j undef (by rw [HR2.out.psl]; exact hj1)
              have hbo := HRj.out.out.1 _ hpm
              obtain ⟨c, hc⟩ : ∃ y, s2.wrs[j] = y := ⟨_, rfl⟩
              rw [hc] at hcs hwf hby Hys
              obtain ⟨u, hu⟩ : ∃ y, x2.ps.getD j undef = y := ⟨_, rfl⟩
              have hu' : ({ x2 with sp := sp } : RDv).ps.getD j undef = u := hu
              rw [hu'] at hcs hby
              rw [hu] at hpm hbo
              obtain ⟨wi, wn, wp⟩ := c
              obtain ⟨au, cu, rfl⟩ := hby.slice
              have HKE := Lib.hid (refKeep q (crashB s2 keep j) { x2 with sp := sp } ⟨wi, wn, wp⟩ (.slice au wp.length cu) wr HRj.out hwf.1 hwf.2.1 hwf.2.2 hby hbo (fun k hk => .inr (.inr (.inl ⟨_, hpm, hk⟩))))
              obtain ⟨lp, Hlp⟩ : ∃ y, Hid (wp.length = y) := ⟨_, rfl⟩
              rw [Hlp.out] at hcs HKE
              have c30 : wr.cell? ⟨gw, j * 3, none⟩ = some (.int .i64 (wi : Int)) := by have := hcs 0 _ rfl; rw [Addr.add_lit, Nat.add_zero] at this; exact this
              have c31 : wr.cell? ⟨gw, j * 3 + 1, none⟩ = some (.int .i64 (wn : Int)) := by have := hcs 1 _ rfl; rw [Addr.add_lit] at this; exact this
              have c32 : wr.cell? ⟨gw, j * 3 + 2, none⟩ = some (.slice au lp cu) := by have := hcs 2 _ rfl; rw [Addr.add_lit] at this; exact this
              unfold nv at HKE
              clear hcs hwf hby hpm hbo hyes hno hc hu hu' hj1 e1 hmem hall hlk hkn
              go_wp2_with fail
              refine HKE.out.mono ?_
              rintro e w4 ⟨rfl, sp', hR4, hT4, hU4⟩
              have HR4 : Hid (RD w4 q (crashB s2 keep (j + 1)) { x2 with sp := sp' }) := by show RD _ _ _ _; rw [← Hys.out]; exact hR4
              have HT4 : Hid (Turn q x { x2 with sp := sp' } w w4) := HTj.out.trans hT4
              have Hu4 : Hid (∀ k, useB q { x2 with sp := sp' } k → useB q x2 k) := fun k hk => Huj.out k (hU4 k hk)
              have HK4 : Hid (IntS w4 (.slice ak keep.length ck) keep) := HK.out.but HT4.out.but HKo.out
              clear hR4 hT4 hU4 HKE
              go_wp2
              go_roundw
              case rel => exact ⟨j + 1, sp', by simp, Hj.out, HR4.out, Hu4.out, HT4.out, HK4.out⟩
              case measure => have := Hj.out; simp [intOf]; omega
            · have Hno := Lib.hid (hno hmem)
              rw [decide_eq_false hmem]
              clear hyes hno hj1 hmem hall hlk hkn
              go_wp2
              go_roundw
              case rel => exact ⟨j + 1, sp, by simp, Hj.out, by show RD _ _ _ _; rw [Hno.out]; exact HRj.out, Huj.out, HTj.out, HKj.out⟩
              case measure => have := Hj.out; simp [intOf]; omega
       · have hljI : ¬ (j : Int) < (nw : Int) := by omega
         have hset := HRj.out.setWr (.slice none 0 0) [] (fun e he => by cases he) (by simp) (World.ownsRow_nil _ _ _ _) (fun k hk => by simp [Value.ownBlock] at hk) w.heap.size (fun k hk => by simp [Value.ownBlock] at hk) w (Nat.le_refl _) x HTj.out
         have HS := Lib.hid hset
         have f4 := HRj.out.frozen 4
         have c6 := HS.out.1.cell 6 (.bool s2.armed) rfl
         have f6 := HS.out.1.frozen 6
         have hh := HS.out.1.setHead 6 (.bool false) { crashB s2 keep j with wrs := [], armed := false } rfl rfl HRj.out.aft
         have HH := Lib.hid hh
         have hEnd : ({ crashB s2 keep j with wrs := [], armed := false } : Ds) = crashF s n keep := by
          unfold crashB crashF
          rw [List.take_of_length_le (by rw [Hw2.out]; omega), Hs2.out]
         have HEnd := Lib.hid hEnd
         clear hset hh hEnd hjn hlj
         go_wp2
         go_end0
         exact ⟨rfl, _, by rw [← HEnd.out]; exact HH.out.1, HS.out.2.trans (Turn.ofBut HH.out.2)⟩
end Go.Proofs.YtoppcpiheaedlaaGreatDoor
