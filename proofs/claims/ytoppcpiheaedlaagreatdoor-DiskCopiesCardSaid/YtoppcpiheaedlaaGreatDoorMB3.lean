import Derived.Test.YtoppcpiheaedlaaGreatDoorMB2
import Derived.Great.BuildSlice
import Derived.Lib.SliceRun
section
/-
  The program's disk: a file that grows.
-/
namespace Go.Proofs.YtoppcpiheaedlaaGreatDoor
open Go.RowKit Go.Maps Go.MapKept
set_option linter.unusedVariables false
set_option linter.unusedSimpArgs false
attribute [local go_sem] sv nv mv pv
theorem infoSec : (Tryz.prog.info? 106).map (fun i => (i.zero, i.size, i.bytes)) = some (some (.agg (Array.replicate 64 (.int .u8 0))), 64, 64) := by kernel_rfl
theorem infoSec_parts : ∃ i z, Tryz.prog.info? 106 = some i ∧ i.zero = some z ∧ i.size = 64 ∧ i.bytes = 64 ∧ z.cells = Array.replicate 64 (.int .u8 0) := by
 obtain ⟨i, h1, h2⟩ := Option.map_eq_some_iff.1 infoSec
 simp only [Prod.mk.injEq] at h2
 exact ⟨i, _, h1, h2.1, h2.2.1, h2.2.2, rfl⟩
theorem zeros_flat (m : Nat) : (Builtin.zeroCells (Array.replicate 64 (.int .u8 0)) m).toList = (List.replicate m zero64).flatMap secC := by
 have e1 : (List.replicate m zero64).flatMap secC = List.replicate (m * 64) (bv 0) := by
  induction m with
  | zero => rfl
  | succ m ih =>
   rw [List.replicate_succ, List.flatMap_cons, ih]
   show (zero64.map bv) ++ _ = _
   unfold zero64
   rw [List.map_replicate, List.replicate_append_replicate]
   congr 1
   omega
 rw [e1]
 unfold Builtin.zeroCells
 apply List.ext_getElem
 · simp
 · intro i h1 h2
   simp
   have : i % 64 < 64 := Nat.mod_lt _ (by omega)
   simp [getElem!_def, this, bv]
theorem secC_len {l : List Sec} (h : ∀ p ∈ l, p.length = 64) : (l.flatMap secC).length = l.length * 64 := by
 induction l with
 | nil => rfl
 | cons p l ih =>
  rw [List.flatMap_cons, List.length_append, ih (fun q hq => h q (by simp [hq]))]
  have := h p (by simp)
  simp only [secC, List.length_map, List.length_cons, this]
  omega
theorem setCell_own {W : World} {b : Nat} {cs : Array Value} {T : TypeId} (hb : W.heap[b]? = some (.cells cs T (0, 0))) (i : Nat) (u : Value) {B e k n : Nat} {v : Value} {xs : List Value} (h : W.ownsRow B e k v n xs) (hne : T ≠ e) : (W.setCell ⟨b, i, none⟩ u).ownsRow B e k v n xs :=
 own_but h (But.setCell (But.refl' (fun k => k = b) _) _ _ rfl) fun j hj hn => own_ne h hb hne (by rw [hj, hn])
theorem grown_own {W W' : World} {r : Option Nat} (hg : W.grownBy W' r) {B e k n : Nat} {v : Value} {xs : List Value} (h : W.ownsRow B e k v n xs) (hne : ∀ j, v.ownBlock = some j → r ≠ some j) : W'.ownsRow B e k v n xs :=
 own_own h fun j hj => hg.block j (own_lt h j hj) (fun e => hne j hj e.symm)
theorem FiOk.grown {W2 W3 W5 : World} {f : Fi} (h : FiOk W2 f) (m : Nat) (v6 v7 : Value) (hm : f.now.length + m ≤ 4096)
 (ho3 : W3.ownsRow 0 106 64 v6 (f.now.length + m) (f.now.flatMap secC ++ (List.replicate m zero64).flatMap secC)) (hg3 : W2.grownBy W3 f.vn.ownBlock) (ha3 : v6.ownBlock = f.vn.ownBlock ∨ v6.ownBlock = some W2.heap.size)
 (ho5 : W5.ownsRow 0 106 64 v7 (f.now.length + m) (f.safe.flatMap secC ++ (List.replicate m zero64).flatMap secC)) (hg5 : (W3.setCell ⟨f.blk, 0, none⟩ v6).grownBy W5 f.vs.ownBlock) (ha5 : v7.ownBlock = f.vs.ownBlock ∨ v7.ownBlock = some (W3.setCell ⟨f.blk, 0, none⟩ v6).heap.size) :
 FiOk (W5.setCell ⟨f.blk, 1, none⟩ v7) ⟨f.num, f.blk, v6, v7, f.now ++ List.replicate m zero64, f.safe ++ List.replicate m zero64⟩ ∧ But (fun k => k = f.blk ∨ FiRows f k) W2 (W5.setCell ⟨f.blk, 1, none⟩ v7) ∧
  ∀ k, FiRows ⟨f.num, f.blk, v6, v7, f.now ++ List.replicate m zero64, f.safe ++ List.replicate m zero64⟩ k → FiRows f k ∨ W2.heap.size ≤ k := by
 have hbn : f.vn.ownBlock ≠ some f.blk := own_ne h.now h.row (by decide)
 have hbs : f.vs.ownBlock ≠ some f.blk := own_ne h.safe h.row (by decide)
 have r3 : W3.heap[f.blk]? = some (.cells #[f.vn, f.vs] 113 (0, 0)) := (hg3.block _ (Array.getElem?_eq_some_iff.1 h.row).1 (fun e => hbn e.symm)).trans h.row
 have r4 := row_setCell r3 0 v6
 have r5 : W5.heap[f.blk]? = some (.cells #[v6, f.vs] 113 (0, 0)) := (hg5.block _ (Array.getElem?_eq_some_iff.1 r4).1 (fun e => hbs e.symm)).trans r4
 have r6 := row_setCell r5 1 v7
 have hs4 : (W3.setCell ⟨f.blk, 0, none⟩ v6).heap.size = W3.heap.size := by simp [World.setCell]
 have hsn : ∀ j, v6.ownBlock = some j → f.vs.ownBlock ≠ some j := fun j hj hs => by
  rcases ha3 with h' | h'
  · exact h.apart j (h'.symm.trans hj) hs
  · have := own_lt h.safe j hs
    rw [h'] at hj
    have := Option.some.inj hj
    omega
 have o4 := setCell_own r3 0 v6 ho3 (by decide)
 have o5 := grown_own hg5 o4 hsn
 have o6 := setCell_own r5 1 v7 o5 (by decide)
 have s6 := setCell_own r5 1 v7 ho5 (by decide)
 refine ⟨⟨r6, ?_, ?_, ?_, ?_, ?_, ?_, ?_⟩, ?_, ?_⟩
 · show World.ownsRow _ _ _ _ v6 (f.now ++ List.replicate m zero64).length ((f.now ++ List.replicate m zero64).flatMap secC)
   rw [List.length_append, List.length_replicate, List.flatMap_append]
   exact o6
 · show World.ownsRow _ _ _ _ v7 (f.safe ++ List.replicate m zero64).length ((f.safe ++ List.replicate m zero64).flatMap secC)
   rw [List.length_append, List.length_replicate, List.flatMap_append, h.len]
   exact s6
 · show (f.safe ++ _).length = (f.now ++ _).length
   rw [List.length_append, List.length_append, h.len]
 · intro p hp
   rcases List.mem_append.1 hp with hp | hp
   · exact h.now64 p hp
   · rw [(List.mem_replicate.1 hp).2]; simp [zero64]
 · intro p hp
   rcases List.mem_append.1 hp with hp | hp
   · exact h.safe64 p hp
   · rw [(List.mem_replicate.1 hp).2]; simp [zero64]
 · show (f.now ++ _).length ≤ _
   rw [List.length_append, List.length_replicate]
   exact hm
 · intro k hk hk'
   have hk : v6.ownBlock = some k := hk
   have hk' : v7.ownBlock = some k := hk'
   rcases ha5 with h' | h'
   · exact hsn k hk (h'.symm.trans hk')
   · have := own_lt ho3 k hk
     rw [h'] at hk'
     have := Option.some.inj hk'
     omega
 · exact But.setCell ((But.setCell (But.grown hg3 fun k hk => .inr (.inl hk)) ⟨f.blk, 0, none⟩ v6 (.inl rfl)).trans' (But.grown hg5 fun k hk => .inr (.inr hk))) _ _ (.inl rfl)
 · intro k hk
   have hsz := hg3.size
   rcases hk with hk | hk
   · rcases ha3 with h' | h'
     · exact .inl (.inl (h'.symm.trans hk))
     · right; rw [show Fi.vn _ = v6 from rfl, h'] at hk; have := Option.some.inj hk; omega
   · rcases ha5 with h' | h'
     · exact .inl (.inr (h'.symm.trans hk))
     · right; rw [show Fi.vs _ = v7 from rfl, h', hs4] at hk; have := Option.some.inj hk; omega
theorem takenP_le {w : World} {q : Nat} {x : Px} (h : PD w q x) : takenP x.s ≤ 32768 := by
 unfold takenP
 rw [nowX_s]
 have hdm := nowX_mem x h.wf.ne
 have hlen := (h.wf.names _ hdm).1
 have hall : ∀ e ∈ (nowX x).2, (fileP x.s e.2).1.length ≤ 4096 := fun e he => by
  obtain ⟨_, g, hg, hgn⟩ := (h.wf.names _ hdm).2 e he
  rw [← hgn, h.fileP hg]
  exact (h.files.ok g hg).le
 have : ∀ l : Dir, (∀ e ∈ l, (fileP x.s e.2).1.length ≤ 4096) → (l.map fun e => (fileP x.s e.2).1.length).sum ≤ 4096 * l.length := by
  intro l
  induction l with
  | nil => simp
  | cons e l ih =>
   intro ha
   have h1 := ih (fun e he => ha e (by simp [he]))
   have h2 := ha e (by simp)
   simp only [List.map_cons, List.sum_cons, List.length_cons]
   omega
 have := this _ hall
 omega
set_option maxRecDepth 100000 in
set_option maxHeartbeats 2000000 in
theorem pGrow {w : World} {q : Nat} {x : Px} (h : PD w q x) (nm : Nm) (hn : okS nm) (n : Int) (hnI : -9223372036854775808 ≤ n ∧ n ≤ 9223372036854775807) :
 Calls Tryz.prog 75 #[.pointer (some ⟨q, 0, none⟩), sv nm, .int .i64 n] w fun e w' => e = .returned (.int .i64 (growP x.s nm n).1) ∧ ∃ x', PD w' q x' ∧ x'.s = (growP x.s nm n).2 ∧ TurnP q x x' w w' := by
 have hmx : Tryz.prog.follows .mixedOrders = true := by kernel_rfl
 have HB := Lib.hid (pBeginWith h nm hn)
 unfold sv at HB ⊢
 by_cases hf : (beginP x.s).1 = 0
 · have hr : bwR x nm = findR (nowX x).2 nm := by unfold bwR; rw [if_pos hf]
   rw [hr] at HB
   cases hd : findA (nowX x).2 nm with
   | none =>
    have hr' : findR (nowX x).2 nm = .tuple #[.int .i64 0, .int .i64 7] := by unfold findR; rw [hd]
    have Hr : Hid (growP x.s nm n = (7, (beginX x).s)) := by
     show _ = _
     unfold growP
     rw [guardP_yes hf, ← beginX_s, nowX_s, show (nowX (beginX x)).2 = (nowX x).2 from rfl, hd]
    rw [hr'] at HB
    clear h hn hf hr hd hr' hnI
    go_enter Tryz.func75, Tryz.ntmps75
    go_wp2_with fail
    refine HB.out.mono ?_
    rintro e w1 ⟨rfl, hP, hT⟩
    have HP := Lib.hid hP
    have HT := Lib.hid hT
    clear hP hT
    go_wp2
    go_ret
    exact ⟨by rw [Hr.out]; rfl, beginX x, HP.out, by rw [Hr.out], HT.out⟩
   | some k =>
    have hr' : findR (nowX x).2 nm = .tuple #[.int .i64 (k : Int), .int .i64 0] := by unfold findR; rw [hd]; rfl
    obtain ⟨f, hfm, hfn⟩ := h.named (nowX_mem x h.wf.ne) hd
    have Hfi := Lib.hid hfm
    have Hfn := Lib.hid hfn
    have hfp : fileP (beginX x).s k = (f.now, f.safe) := by rw [← hfn]; exact h.fileP hfm
    have Hs : Hid (growP x.s nm n = if n < f.now.length ∨ 4096 < n then (2, (beginX x).s) else if ((beginX x).s.room : Int) < (takenP (beginX x).s : Int) + (n - f.now.length) then (42, (beginX x).s)
     else (0, { (beginX x).s with files := setFile (beginX x).s.files k (f.now ++ List.replicate (n.toNat - f.now.length) zero64, f.safe ++ List.replicate (n.toNat - f.now.length) zero64) })) := by
     show _ = _
     unfold growP
     rw [guardP_yes hf, ← beginX_s, nowX_s, show (nowX (beginX x)).2 = (nowX x).2 from rfl, hd]
     simp only [hfp]
    have Hokp : Hid (okI k) := okI_small (by rw [← hfn]; exact Nat.le_trans (h.wf.nums f hfm) h.wf.small.2.2.2)
    have Hle := Lib.hid (h.files.ok f hfm).le
    rw [hr'] at HB
    clear h hn hf hr hd hr' hfm hfn hfp
    obtain ⟨L, HL⟩ : ∃ L, Hid (f.now.length = L) := ⟨_, rfl⟩
    obtain ⟨b, Hb⟩ : ∃ b, Hid (f.blk = b) := ⟨_, rfl⟩
    rw [HL.out] at Hs Hle
    have hLI : (L : Int) ≤ 4096 := by have := Hle.out; omega
    by_cases h1 : n < L
    · have Hr : Hid (growP x.s nm n = (2, (beginX x).s)) := by show _ = _; rw [Hs.out, if_pos (.inl h1)]
      go_enter Tryz.func75, Tryz.ntmps75
      go_wp2_with fail
      refine HB.out.mono ?_
      rintro e w1 ⟨rfl, hP, hT⟩
      have HP := Lib.hid hP
      have HT := Lib.hid hT
      have hfo := hP.files.ok f Hfi.out
      have Hfo := Lib.hid hfo
      obtain ⟨a, c, a', c', e1, e2, d0, d1⟩ := fi_form hfo
      have hlk := hP.look Hfi.out
      rw [Hfn.out, Hb.out] at hlk
      have Hlk1 := Lib.hid hlk
      have HM1 := Lib.hid hP.files.map
      have Hok1 := Lib.hid hP.okF
      have c2 := hP.cell 2 (mv (beginX x).fm) rfl
      have cr := hP.cell 0 (nv (beginX x).room) rfl
      obtain ⟨fm, Hfm⟩ : ∃ y, Hid ((beginX x).fm = y) := ⟨_, rfl⟩
      rw [Hfm.out] at c2 HM1
      rw [HL.out] at e1 e2 d0 d1
      rw [Hb.out] at d0 d1
      unfold mv at c2
      unfold nv at cr
      have E1 := Lib.hid e1
      have E2 := Lib.hid e2
      clear hP hT hfo hlk e1 e2
      go_wp2_with (at_lookup; refine wpList_lookA rfl _ _ 95 109 false rfl HM1.out keyF Hok1.out Tryz.underlying95 _ (zeroFile _) k Hokp.out rfl rfl (.pointer (some ⟨b, 0, none⟩)) (by rw [Hlk1.out]; rfl) ?_)
      go_ret
      exact ⟨by rw [Hr.out]; rfl, beginX x, HP.out, by rw [Hr.out], HT.out⟩
    · by_cases h2 : 4096 < n
      · have Hr : Hid (growP x.s nm n = (2, (beginX x).s)) := by show _ = _; rw [Hs.out, if_pos (.inr h2)]
        go_enter Tryz.func75, Tryz.ntmps75
        go_wp2_with fail
        refine HB.out.mono ?_
        rintro e w1 ⟨rfl, hP, hT⟩
        have HP := Lib.hid hP
        have HT := Lib.hid hT
        have hfo := hP.files.ok f Hfi.out
        have Hfo := Lib.hid hfo
        obtain ⟨a, c, a', c', e1, e2, d0, d1⟩ := fi_form hfo
        have hlk := hP.look Hfi.out
        rw [Hfn.out, Hb.out] at hlk
        have Hlk1 := Lib.hid hlk
        have HM1 := Lib.hid hP.files.map
        have Hok1 := Lib.hid hP.okF
        have c2 := hP.cell 2 (mv (beginX x).fm) rfl
        have cr := hP.cell 0 (nv (beginX x).room) rfl
        obtain ⟨fm, Hfm⟩ : ∃ y, Hid ((beginX x).fm = y) := ⟨_, rfl⟩
        rw [Hfm.out] at c2 HM1
        rw [HL.out] at e1 e2 d0 d1
        rw [Hb.out] at d0 d1
        unfold mv at c2
        unfold nv at cr
        have E1 := Lib.hid e1
        have E2 := Lib.hid e2
        clear hP hT hfo hlk e1 e2
        go_wp2_with (at_lookup; refine wpList_lookA rfl _ _ 95 109 false rfl HM1.out keyF Hok1.out Tryz.underlying95 _ (zeroFile _) k Hokp.out rfl rfl (.pointer (some ⟨b, 0, none⟩)) (by rw [Hlk1.out]; rfl) ?_)
        go_ret
        exact ⟨by rw [Hr.out]; rfl, beginX x, HP.out, by rw [Hr.out], HT.out⟩
      · obtain ⟨m, hm⟩ : ∃ m : Nat, n - (L : Int) = (m : Int) := ⟨(n - L).toNat, by omega⟩
        have Hmn : Hid (n.toNat - L = m ∧ L + m ≤ 4096) := by constructor <;> omega
        have hmI : (m : Int) ≤ 4096 := by omega
        obtain ⟨rm, Hrm⟩ : ∃ r, Hid ((beginX x).room = r) := ⟨_, rfl⟩
        obtain ⟨tk, Htk⟩ : ∃ r, Hid (takenP (beginX x).s = r) := ⟨_, rfl⟩
        have Hs2 : Hid (growP x.s nm n = if (rm : Int) < (tk : Int) + (m : Int) then (42, (beginX x).s)
         else (0, { (beginX x).s with files := setFile (beginX x).s.files k (f.now ++ List.replicate m zero64, f.safe ++ List.replicate m zero64) })) := by
         show _ = _
         rw [Hs.out, if_neg (by omega), hm, Hmn.out.1, show (beginX x).s.room = (beginX x).room from rfl, Hrm.out, Htk.out]
        clear Hs
        by_cases h3 : (rm : Int) < (tk : Int) + (m : Int)
        · have Hr : Hid (growP x.s nm n = (42, (beginX x).s)) := by show _ = _; rw [Hs2.out, if_pos h3]
          go_enter Tryz.func75, Tryz.ntmps75
          go_wp2_with fail
          refine HB.out.mono ?_
          rintro e w1 ⟨rfl, hP, hT⟩
          have HP := Lib.hid hP
          have HT := Lib.hid hT
          have hfo := hP.files.ok f Hfi.out
          have Hfo := Lib.hid hfo
          obtain ⟨a, c, a', c', e1, e2, d0, d1⟩ := fi_form hfo
          have hlk := hP.look Hfi.out
          rw [Hfn.out, Hb.out] at hlk
          have Hlk1 := Lib.hid hlk
          have HM1 := Lib.hid hP.files.map
          have Hok1 := Lib.hid hP.okF
          have c2 := hP.cell 2 (mv (beginX x).fm) rfl
          have cr := hP.cell 0 (nv (beginX x).room) rfl
          obtain ⟨fm, Hfm⟩ : ∃ y, Hid ((beginX x).fm = y) := ⟨_, rfl⟩
          rw [Hfm.out] at c2 HM1
          rw [HL.out] at e1 e2 d0 d1
          rw [Hb.out] at d0 d1
          unfold mv at c2
          unfold nv at cr
          have E1 := Lib.hid e1
          have E2 := Lib.hid e2
          rw [Hrm.out] at cr
          have htk := takenP_le hP
          rw [Htk.out] at htk
          have htI : (tk : Int) ≤ 32768 := by omega
          have hrI : (rm : Int) ≤ 4096 := by have := hP.wf.room; rw [Hrm.out] at this; omega
          clear hP hT hfo hlk e1 e2
          go_wp2_with (at_lookup; refine wpList_lookA rfl _ _ 95 109 false rfl HM1.out keyF Hok1.out Tryz.underlying95 _ (zeroFile _) k Hokp.out rfl rfl (.pointer (some ⟨b, 0, none⟩)) (by rw [Hlk1.out]; rfl) ?_)
          have cX := fun X (hX : Grows _ X) => Grows.cell' hX cr
          refine specs_region
           #[[], [0], [], [0, 1, 2], [], [4], [4, 5], [4, 5, 6], [0, 1, 2, 3, 4, 5, 6, 7]] #[[0], [], [10], [], [0], [], [], [], []] #[true, true, true, true, true, true, true, true, true]
           ((.val ?v0) :: (.val ?v1) :: (.val ?v2) :: (.val ?v3) :: (.val ?v4) :: (.val ?v5) :: (.val ?v6) :: (.val ?v7) :: (.val ?v8) :: []).toArray
           hmx ?chk ?grd ?stp ?rst
          case chk => rfl
          case stp =>
           refine ⟨?_, ?_, ?_, ?_, ?_, ?_, ?_, ?_, ?_, trivial⟩
           · refine stepO 0 ?v0 rfl (fun _ _ => rfl) rfl (fun _ => rfl) (by decide) ?_; show (.pointer (some ⟨q, 0, none⟩) : Value) = _; rfl
           · refine step_intro rfl rfl fun ρ X hc hf hgl hX hp ho => ?_
             change StepOk _ ⟨_, .call { callee := .value (.func 98), args := #[.tmp 44], argTypes := #[25] }, _, _, _, _⟩ _ _ _
             have k44 : ρ (.tmp 44) = ?v0 := hp 0 (by decide)
             clear hp ho
             refine StepOk.of_call (f := 98) (args := #[?v0]) (w' := X) ?_ (pTaken (HP.out.grows hX)) ?_
             · go_simp
               all_goals try go_bits
               all_goals try rfl
             · rintro e w'' ⟨rfl, hg'⟩; refine ⟨_, rfl, ?_, hg'⟩; rw [Htk.out]; show _ = ?v1; rfl
           · refine stepO 10 ?v2 rfl (fun _ _ => rfl) rfl (fun _ => rfl) (by decide) ?_; show (.int .i64 (m : Int) : Value) = _; rfl
           · refine stepR (o := ⟨_, .binOp .add 3 (.tmp 45) (.tmp 46) 3, _, _, _, _⟩) ?v3 rfl rfl (fun _ => rfl) fun ρ X hc hf hgl hX hp ho => ?_; have k45 : ρ (.tmp 45) = ?v1 := hp 1 (by decide); have k46 : ρ (.tmp 46) = ?v2 := hp 2 (by decide); clear hp ho hX; go_simp; (all_goals try go_bits); (all_goals try simp only [IntWalk.iteOmega]); (all_goals try go_bits); (all_goals rfl)
           · refine stepO 0 ?v4 rfl (fun _ _ => rfl) rfl (fun _ => rfl) (by decide) ?_; show (.pointer (some ⟨q, 0, none⟩) : Value) = _; rfl
           · refine stepR (o := ⟨_, .nilCheck (.tmp 48), _, _, _, _⟩) ?v5 rfl rfl (fun _ => rfl) fun ρ X hc hf hgl hX hp ho => ?_; have k48 : ρ (.tmp 48) = ?v4 := hp 4 (by decide); clear hp ho hX; go_simp; (all_goals rfl)
           · refine stepR (o := ⟨_, .fieldAddr 100 (.tmp 49) 0, _, _, _, _⟩) ?v6 rfl rfl (fun _ => rfl) fun ρ X hc hf hgl hX hp ho => ?_; have k49 : ρ (.tmp 49) = ?v5 := hp 5 (by decide); clear hp ho hX; go_simp; (all_goals rfl)
           · refine stepR (o := ⟨_, .load 3 (.tmp 50), _, _, _, _⟩) ?v7 rfl rfl (fun _ => rfl) fun ρ X hc hf hgl hX hp ho => ?_; have k50 : ρ (.tmp 50) = ?v6 := hp 6 (by decide); have cX := cX X hX; clear hp ho hX; go_simp; (all_goals rfl)
           · refine stepR (o := ⟨_, .binOp .gtr 3 (.tmp 47) (.tmp 51) 3, _, _, _, _⟩) ?v8 rfl rfl (fun _ => rfl) fun ρ X hc hf hgl hX hp ho => ?_; have k47 : ρ (.tmp 47) = ?v3 := hp 3 (by decide); have k51 : ρ (.tmp 51) = ?v7 := hp 7 (by decide); clear hp ho hX; go_simp; (all_goals try go_bits); (all_goals try simp only [IntWalk.iteOmega]); (all_goals try go_bits); (all_goals rfl)
          case grd => rfl
          case rst =>
           intro a0 X hb
           have hfr := hb.frame ((44, ?v0) :: (45, ?v1) :: (46, ?v2) :: (47, ?v3) :: (48, ?v4) :: (49, ?v5) :: (50, ?v6) :: (51, ?v7) :: (52, ?v8) :: []) rfl ⟨hb.done' 0 44 rfl rfl, hb.done' 1 45 rfl rfl, hb.done' 2 46 rfl rfl, hb.done' 3 47 rfl rfl, hb.done' 4 48 rfl rfl, hb.done' 5 49 rfl rfl, hb.done' 6 50 rfl rfl, hb.done' 7 51 rfl rfl, hb.done' 8 52 rfl rfl, trivial⟩
           simp only [updL, ↓reduceIte, Nat.reduceEqDiff, Nat.reduceAdd, Nat.zero_add] at hfr
           have HX := Lib.hid hb.ext
           clear hb cX
           subst hfr
           go_wp2
           go_ret
           exact ⟨by rw [Hr.out]; rfl, beginX x, HP.out.grows HX.out, by rw [Hr.out], HT.out.trans (TurnP.ofGrows HX.out)⟩
        · have Hr : Hid (growP x.s nm n = (0, { (beginX x).s with files := setFile (beginX x).s.files k (f.now ++ List.replicate m zero64, f.safe ++ List.replicate m zero64) })) := by show _ = _; rw [Hs2.out, if_neg h3]
          go_enter Tryz.func75, Tryz.ntmps75
          go_wp2_with fail
          refine HB.out.mono ?_
          rintro e w1 ⟨rfl, hP, hT⟩
          have HP := Lib.hid hP
          have HT := Lib.hid hT
          have hfo := hP.files.ok f Hfi.out
          have Hfo := Lib.hid hfo
          obtain ⟨a, c, a', c', e1, e2, d0, d1⟩ := fi_form hfo
          have hlk := hP.look Hfi.out
          rw [Hfn.out, Hb.out] at hlk
          have Hlk1 := Lib.hid hlk
          have HM1 := Lib.hid hP.files.map
          have Hok1 := Lib.hid hP.okF
          have c2 := hP.cell 2 (mv (beginX x).fm) rfl
          have cr := hP.cell 0 (nv (beginX x).room) rfl
          obtain ⟨fm, Hfm⟩ : ∃ y, Hid ((beginX x).fm = y) := ⟨_, rfl⟩
          rw [Hfm.out] at c2 HM1
          rw [HL.out] at e1 e2 d0 d1
          rw [Hb.out] at d0 d1
          unfold mv at c2
          unfold nv at cr
          have E1 := Lib.hid e1
          have E2 := Lib.hid e2
          rw [Hrm.out] at cr
          have htk := takenP_le hP
          rw [Htk.out] at htk
          have htI : (tk : Int) ≤ 32768 := by omega
          have hrI : (rm : Int) ≤ 4096 := by have := hP.wf.room; rw [Hrm.out] at this; omega
          clear hP hT hfo hlk e1 e2
          go_wp2_with (at_lookup; refine wpList_lookA rfl _ _ 95 109 false rfl HM1.out keyF Hok1.out Tryz.underlying95 _ (zeroFile _) k Hokp.out rfl rfl (.pointer (some ⟨b, 0, none⟩)) (by rw [Hlk1.out]; rfl) ?_)
          have cXb := fun X (hX : Grows _ X) => Grows.cell' hX cr
          refine specs_region
           #[[], [0], [], [0, 1, 2], [], [4], [4, 5], [4, 5, 6], [0, 1, 2, 3, 4, 5, 6, 7]] #[[0], [], [10], [], [0], [], [], [], []] #[true, true, true, true, true, true, true, true, true]
           ((.val ?vb0) :: (.val ?vb1) :: (.val ?vb2) :: (.val ?vb3) :: (.val ?vb4) :: (.val ?vb5) :: (.val ?vb6) :: (.val ?vb7) :: (.val ?vb8) :: []).toArray
           hmx ?chkb ?grdb ?stpb ?rstb
          case chkb => rfl
          case stpb =>
           refine ⟨?_, ?_, ?_, ?_, ?_, ?_, ?_, ?_, ?_, trivial⟩
           · refine stepO 0 ?vb0 rfl (fun _ _ => rfl) rfl (fun _ => rfl) (by decide) ?_; show (.pointer (some ⟨q, 0, none⟩) : Value) = _; rfl
           · refine step_intro rfl rfl fun ρ X hc hf hgl hX hp ho => ?_
             change StepOk _ ⟨_, .call { callee := .value (.func 98), args := #[.tmp 44], argTypes := #[25] }, _, _, _, _⟩ _ _ _
             have k44 : ρ (.tmp 44) = ?vb0 := hp 0 (by decide)
             clear hp ho
             refine StepOk.of_call (f := 98) (args := #[?vb0]) (w' := X) ?_ (pTaken (HP.out.grows hX)) ?_
             · go_simp
               all_goals try go_bits
               all_goals try rfl
             · rintro e w'' ⟨rfl, hg'⟩; refine ⟨_, rfl, ?_, hg'⟩; rw [Htk.out]; show _ = ?vb1; rfl
           · refine stepO 10 ?vb2 rfl (fun _ _ => rfl) rfl (fun _ => rfl) (by decide) ?_; show (.int .i64 (m : Int) : Value) = _; rfl
           · refine stepR (o := ⟨_, .binOp .add 3 (.tmp 45) (.tmp 46) 3, _, _, _, _⟩) ?vb3 rfl rfl (fun _ => rfl) fun ρ X hc hf hgl hX hp ho => ?_; have k45 : ρ (.tmp 45) = ?vb1 := hp 1 (by decide); have k46 : ρ (.tmp 46) = ?vb2 := hp 2 (by decide); clear hp ho hX; go_simp; (all_goals try go_bits); (all_goals try simp only [IntWalk.iteOmega]); (all_goals try go_bits); (all_goals rfl)
           · refine stepO 0 ?vb4 rfl (fun _ _ => rfl) rfl (fun _ => rfl) (by decide) ?_; show (.pointer (some ⟨q, 0, none⟩) : Value) = _; rfl
           · refine stepR (o := ⟨_, .nilCheck (.tmp 48), _, _, _, _⟩) ?vb5 rfl rfl (fun _ => rfl) fun ρ X hc hf hgl hX hp ho => ?_; have k48 : ρ (.tmp 48) = ?vb4 := hp 4 (by decide); clear hp ho hX; go_simp; (all_goals rfl)
           · refine stepR (o := ⟨_, .fieldAddr 100 (.tmp 49) 0, _, _, _, _⟩) ?vb6 rfl rfl (fun _ => rfl) fun ρ X hc hf hgl hX hp ho => ?_; have k49 : ρ (.tmp 49) = ?vb5 := hp 5 (by decide); clear hp ho hX; go_simp; (all_goals rfl)
           · refine stepR (o := ⟨_, .load 3 (.tmp 50), _, _, _, _⟩) ?vb7 rfl rfl (fun _ => rfl) fun ρ X hc hf hgl hX hp ho => ?_; have k50 : ρ (.tmp 50) = ?vb6 := hp 6 (by decide); have cX := cXb X hX; clear hp ho hX; go_simp; (all_goals rfl)
           · refine stepR (o := ⟨_, .binOp .gtr 3 (.tmp 47) (.tmp 51) 3, _, _, _, _⟩) ?vb8 rfl rfl (fun _ => rfl) fun ρ X hc hf hgl hX hp ho => ?_; have k47 : ρ (.tmp 47) = ?vb3 := hp 3 (by decide); have k51 : ρ (.tmp 51) = ?vb7 := hp 7 (by decide); clear hp ho hX; go_simp; (all_goals try go_bits); (all_goals try simp only [IntWalk.iteOmega]); (all_goals try go_bits); (all_goals rfl)
          case grdb => rfl
          case rstb =>
           intro a0 X hb
           have hfr := hb.frame ((44, ?vb0) :: (45, ?vb1) :: (46, ?vb2) :: (47, ?vb3) :: (48, ?vb4) :: (49, ?vb5) :: (50, ?vb6) :: (51, ?vb7) :: (52, ?vb8) :: []) rfl ⟨hb.done' 0 44 rfl rfl, hb.done' 1 45 rfl rfl, hb.done' 2 46 rfl rfl, hb.done' 3 47 rfl rfl, hb.done' 4 48 rfl rfl, hb.done' 5 49 rfl rfl, hb.done' 6 50 rfl rfl, hb.done' 7 51 rfl rfl, hb.done' 8 52 rfl rfl, trivial⟩
           simp only [updL, ↓reduceIte, Nat.reduceEqDiff, Nat.reduceAdd, Nat.zero_add] at hfr
           have HX := Lib.hid hb.ext
           clear hb cXb
           subst hfr
           have HfX : Hid (FiOk X f) := Hfo.out.kept (HX.out.block _ (Array.getElem?_eq_some_iff.1 Hfo.out.row).1) fun j hj => HX.out.block _ (kind_lt (Hfo.out.kind hj))
           have g0 := HX.out.cell' d0
           have g1 := HX.out.cell' d1
           obtain ⟨i0, z0, hi, hz, hs2, hb2, hzc⟩ := infoSec_parts
           obtain ⟨Z, HZ⟩ : ∃ Z, Hid ((List.replicate m zero64).flatMap secC = Z) := ⟨_, rfl⟩
           have hown := HfX.out.now
           have hsafe := HfX.out.safe
           rw [HfX.out.len] at hsafe
           rw [E1.out, HL.out] at hown
           rw [E2.out, HL.out] at hsafe
           have HOwn := Lib.hid hown
           have HSafe := Lib.hid hsafe
           have hfb : ¬ ((Value.slice a L c).ownBlock = some b) := by rw [← E1.out, ← Hb.out]; exact own_ne HfX.out.now HfX.out.row (by decide)
           have Hfb := Lib.hid hfb
           clear hown hsafe hfb d0 d1
           go_wp2_with (at_builtin; refine wpList_append_zeros rfl _ _ 110 3 106 rfl i0 z0 64 64 .i64 .i64 Tryz.underlying110 Tryz.underlying3 hi hz hs2 hb2 (by rw [hzc]; simp) (by omega) (by rw [hzc]; intro u hu; simp at hu; rw [hu]; rfl) _ L _ rfl HOwn.out m rfl ?q1 ?q2 Z (by rw [hzc, zeros_flat]; exact HZ.out) ?_)
           case q1 => have := Hmn.out.2; unfold maxLen; omega
           case q2 => have := Hmn.out.2; omega
           intro v3 w3 ho3 hg3 ha3
           obtain ⟨a3, c3, rfl⟩ := own_form ho3
           have HO3 := Lib.hid ho3
           have HG3 := Lib.hid hg3
           have HA3 := Lib.hid ha3
           have r3 : w3.heap[b]? = some (.cells #[f.vn, f.vs] 113 (0, 0)) := by
            have hr := HfX.out.row
            rw [Hb.out] at hr
            exact (hg3.block _ (Array.getElem?_eq_some_iff.1 hr).1 (fun e => Hfb.out e.symm)).trans hr
           have R3 := Lib.hid r3
           have k0 : w3.cell? ⟨b, 0, none⟩ = some f.vn := by rw [cell_of_row w3 b 0 _ _ _ r3]; rfl
           have u0 : w3.frozen? ⟨b, 0, none⟩ = false := frozen_of_row w3 b 0 _ _ r3
           rw [E1.out] at k0
           have r4 := row_setCell r3 0 (.slice a3 (L + m) c3)
           have k1 : (w3.setCell ⟨b, 0, none⟩ (.slice a3 (L + m) c3)).cell? ⟨b, 1, none⟩ = some f.vs := by rw [cell_of_row _ b 1 _ _ _ r4]; rfl
           rw [E2.out] at k1
           have hsafe4 : (w3.setCell ⟨b, 0, none⟩ (.slice a3 (L + m) c3)).ownsRow 0 106 64 (.slice a' L c') L (f.safe.flatMap secC) := setCell_own r3 0 _ (grown_own hg3 HSafe.out (fun j hj => by rw [← E2.out] at hj; rw [← E1.out]; exact fun e => HfX.out.apart j e hj)) (by decide)
           have HS4 := Lib.hid hsafe4
           have Hfb4 : Hid (¬ ((Value.slice a' L c').ownBlock = some b)) := by rw [← E2.out, ← Hb.out]; exact own_ne HfX.out.safe HfX.out.row (by decide)
           have R4 := Lib.hid r4
           clear ho3 hg3 ha3 r3 r4 hsafe4
           go_wp2_with (at_builtin; refine wpList_append_zeros rfl _ _ 110 3 106 rfl i0 z0 64 64 .i64 .i64 Tryz.underlying110 Tryz.underlying3 hi hz hs2 hb2 (by rw [hzc]; simp) (by omega) (by rw [hzc]; intro u hu; simp at hu; rw [hu]; rfl) _ L _ rfl HS4.out m rfl ?q1 ?q2 Z (by rw [hzc, zeros_flat]; exact HZ.out) ?_)
           case q1 => have := Hmn.out.2; unfold maxLen; omega
           case q2 => have := Hmn.out.2; omega
           intro v5 w5 ho5 hg5 ha5
           obtain ⟨a5, c5, rfl⟩ := own_form ho5
           have r5 : w5.heap[b]? = some (.cells (#[f.vn, f.vs].setIfInBounds 0 (.slice a3 (L + m) c3)) 113 (0, 0)) := (hg5.block _ (Array.getElem?_eq_some_iff.1 R4.out).1 (fun e => Hfb4.out e.symm)).trans R4.out
           have k5 : w5.cell? ⟨b, 1, none⟩ = some f.vs := by rw [cell_of_row w5 b 1 _ _ _ r5]; rfl
           rw [E2.out] at k5
           have u5 : w5.frozen? ⟨b, 1, none⟩ = false := frozen_of_row w5 b 1 _ _ r5
           have hgrown := HfX.out.grown m (.slice a3 (L + m) c3) (.slice a5 (L + m) c5) (by rw [HL.out]; exact Hmn.out.2) (W3 := w3) (W5 := w5) (by rw [HL.out, HZ.out]; exact HO3.out) (by rw [E1.out]; exact HG3.out) (by rw [E1.out]; exact HA3.out) (by rw [HL.out, HZ.out]; exact ho5) (by rw [Hb.out, E2.out]; exact hg5) (by rw [Hb.out, E2.out, show (w3.setCell ⟨b, 0, none⟩ (.slice a3 (L + m) c3)).heap.size = w3.heap.size by simp [World.setCell]]; exact ha5)
           have hset := (HP.out.grows HX.out).setF f ⟨f.num, f.blk, .slice a3 (L + m) c3, .slice a5 (L + m) c5, f.now ++ List.replicate m zero64, f.safe ++ List.replicate m zero64⟩ Hfi.out rfl rfl hgrown.2.1 (fun j hj => hj.elim .inl (fun h' => .inr (.inl h'))) hgrown.1 hgrown.2.2 (by simp)
           rw [Hb.out] at hset
           have HSet := Lib.hid hset
           clear ho5 hg5 ha5 r5 hgrown hset
           go_wp2
           go_ret
           refine ⟨by rw [Hr.out]; rfl, _, HSet.out.1, ?_, (HT.out.trans (TurnP.ofGrows HX.out)).trans HSet.out.2⟩
           rw [Hr.out, setF_s, ← Hfn.out]
 · have Hr : Hid (growP x.s nm n = beginP x.s) := guardP_no hf
   have hr : bwR x nm = .tuple #[.int .i64 0, .int .i64 (beginP x.s).1] := by unfold bwR; rw [if_neg hf]
   rw [hr] at HB
   obtain ⟨fc, Hfc⟩ : ∃ y, Hid ((beginP x.s).1 = y) := ⟨_, rfl⟩
   rw [Hfc.out] at HB hf
   have hne : (fc == 0) = false := by simpa using hf
   clear h hn hf hr hnI
   go_enter Tryz.func75, Tryz.ntmps75
   go_wp2_with fail
   refine HB.out.mono ?_
   rintro e w1 ⟨rfl, hP, hT⟩
   have HP := Lib.hid hP
   have HT := Lib.hid hT
   clear hP hT
   go_wp2
   go_ret
   exact ⟨by rw [Hr.out, Hfc.out]; rfl, beginX x, HP.out, by rw [Hr.out, beginX_s], HT.out⟩
end Go.Proofs.YtoppcpiheaedlaaGreatDoor
end
section
/-
  Values that are built of parts of several cells.
-/
namespace Go.Proofs.YtoppcpiheaedlaaGreatDoor
open Go.RowKit
set_option linter.unusedVariables false
set_option linter.unusedSimpArgs false
theorem ovr_nil (cur : Array Value) (o : Nat) : ovr cur o [] = cur := by
 unfold ovr
 simp
theorem ovr_cons (cur : Array Value) (o : Nat) (v : Value) (l : List Value) (h : o + (l.length + 1) ≤ cur.size) : ovr (cur.setIfInBounds o v) (o + 1) l = ovr cur o (v :: l) := by
 unfold ovr
 have e : (cur.setIfInBounds o v).toList = cur.toList.set o v := Array.toList_setIfInBounds ..
 have hn : cur.toList.length = cur.size := rfl
 apply Array.ext'
 simp only [e, List.toList_toArray]
 apply List.ext_getElem?
 intro i
 simp only [List.getElem?_append, List.getElem?_take, List.getElem?_drop, List.length_append, List.length_take, List.length_drop, List.length_set, List.length_cons, List.getElem?_set, List.append_assoc, hn]
 by_cases h1 : i < o
 · simp [h1, show i < o + 1 by omega, show i < min (o + 1) cur.size by omega, show i < min o cur.size by omega, show ¬ o = i by omega]
 · by_cases h2 : i = o
   · subst h2
     simp [show i < min (i + 1) cur.size by omega, show min i cur.size = i by omega, show i < cur.size by omega]
   · have h3 : o + 1 ≤ i := by omega
     simp only [show min (o + 1) cur.size = o + 1 by omega, show min o cur.size = o by omega, show ¬ i < o + 1 by omega, show ¬ i < o by omega, if_false]
     by_cases h4 : i - (o + 1) < l.length
     · simp only [h4, show i - o < l.length + 1 by omega, if_true]
       rw [show i - o = (i - (o + 1)) + 1 by omega, List.getElem?_cons_succ]
     · simp only [h4, show ¬ i - o < l.length + 1 by omega, if_false]
       rw [show o + 1 + l.length + (i - (o + 1) - l.length) = i by omega, show o + (l.length + 1) + (i - o - (l.length + 1)) = i by omega]
       simp [show ¬ o = i by omega]
theorem fold_ovr (off : Nat) : ∀ (l : List Value) (k : Nat) (cells : Array Value), off + k + l.length ≤ cells.size → (l.zipIdx k).foldl (fun cs (x : Value × Nat) => cs.setIfInBounds (off + x.2) x.1) cells = ovr cells (off + k) l
 | [], k, cells, _ => (ovr_nil _ _).symm
 | v :: l, k, cells, h => by
  simp only [List.length_cons] at h
  rw [List.zipIdx_cons, List.foldl_cons, fold_ovr off l (k + 1) _ (by simp; omega)]
  exact ovr_cons cells (off + k) v l (by omega)
theorem fill_step {place : Nat → Option (Nat × Nat)} {cells : Array Value} {i off size : Nat} {v : Value} {rest : List (Nat × Value)} (hp : place i = some (off, size)) (hv : v.cells.size = size) (hf : off + size ≤ cells.size) :
 Instr.fill place cells ((i, v) :: rest) = Instr.fill place (ovr cells off v.cells.toList) rest := by
 have e : v.cells.zipIdx.foldl (fun cs (x : Value × Nat) => cs.setIfInBounds (off + x.2) x.1) cells = ovr cells off v.cells.toList := by
  rw [← Array.foldl_toList, Array.toList_zipIdx]
  exact fold_ovr off v.cells.toList 0 cells (by simp; omega)
 conv => lhs; unfold Instr.fill
 rw [hp]
 simp only [hv, ne_eq, not_true_eq_false, decide_false, Bool.false_or, decide_eq_true_eq]
 rw [if_neg (by omega)]
 exact congrArg (fun c => Instr.fill place c rest) e
theorem ovr_all {cur : Array Value} {l : List Value} (h : l.length = cur.size) : ovr cur 0 l = l.toArray := by
 unfold ovr
 have : cur.toList.drop (0 + l.length) = [] := List.drop_eq_nil_of_le (by simp; omega)
 rw [this]
 simp
theorem run_buildSlice1 {P : Program} (w : World) (t e : TypeId) (ie : TypeInfo) (z : Value) (k : Nat) (cs : List Value) (hu : P.underlying t = some (.slice e)) (hie : P.info? e = some ie) (hz : ie.zero = some z) (hk : ie.size = k) (hs : cs.length = k) (h0 : 0 < k) (h1 : k ≤ 1000000) :
 (Instr.buildSlice t 1 #[(0, .agg cs.toArray)]).run P w = .ok (.slice (some ⟨w.heap.size, 0, none⟩) 1 1) (w.alloc (.cells cs.toArray e)) := by
 refine run_buildSlice w t e 1 _ _ ie z hu hie hz (by omega) (by omega) ?_
 show Instr.fill _ _ [(0, Value.agg cs.toArray)] = _
 rw [fill_step (off := 0) (size := k) (by simp [hk]) (by show cs.toArray.size = k; simp [hs]) (by simp; omega)]
 show some (ovr _ 0 cs.toArray.toList) = _
 rw [ovr_all]
 simp
 omega
end Go.Proofs.YtoppcpiheaedlaaGreatDoor
end
section
/-
  The program's disk: a sector that is read.
-/
namespace Go.Proofs.YtoppcpiheaedlaaGreatDoor
open Go.RowKit Go.Maps Go.MapKept
set_option linter.unusedVariables false
set_option linter.unusedSimpArgs false
attribute [local go_sem] sv nv mv pv
theorem info5d : (Tryz.prog.info? 5).map (fun i => (i.zero, i.size, i.bytes)) = some (some (.int .u8 0), 1, 1) := by kernel_rfl
theorem info5d_parts : ∃ i, Tryz.prog.info? 5 = some i ∧ i.zero = some (.int .u8 0) ∧ i.size = 1 ∧ i.bytes = 1 := by
 obtain ⟨i, h1, h2⟩ := Option.map_eq_some_iff.1 info5d
 simp only [Prod.mk.injEq] at h2
 exact ⟨i, h1, h2.1, h2.2.1, h2.2.2⟩
set_option maxRecDepth 100000 in
theorem pClone (g off cap : Nat) (l : List UInt8) (w : World) (h : Byt w (.slice (some ⟨g, off, none⟩) l.length cap) l) (hl : l.length ≤ 1000000) :
 Calls Tryz.prog 103 #[.slice (some ⟨g, off, none⟩) l.length cap] w fun e w' => ∃ v', e = .returned v' ∧ Own 5 w.heap.size w' v' l ∧ Grows w w' := by
 obtain ⟨i0, hi, hz, hs, hb⟩ := info5d_parts
 have hq := Lib.run_eql_slice_nil (P := Tryz.prog)
 have H := Lib.hid h
 have Hl := Lib.hid hl
 obtain ⟨n, Hn⟩ : ∃ n, Hid (l.length = n) := ⟨_, rfl⟩
 rw [Hn.out] at H ⊢
 clear h hl
 go_enter Tryz.func103, Tryz.ntmps103
 go_wp2_with (at_builtin; refine wpList_app rfl _ _ 36 5 i0 rfl Tryz.underlying36 hi hz hs hb w.heap.size _ _ [] l rfl (Own.empty _ _ w (Nat.le_refl _)) rfl (H.out.grows (Grows.alloc' _ _)) (by have := Hl.out; simp; omega) (by simp) ?_; intro v1 w1 ho hg)
 obtain ⟨a1, c1, rfl⟩ := own_form ho
 have HO := Lib.hid ho
 have HG : Hid (Grows w w1) := grows_app ((Below.refl _ _).alloc (Nat.le_refl _) _) (Own.empty 5 _ w (Nat.le_refl _)) (by simp) hg
 clear ho hg
 go_wp2
 go_ret
 exact ⟨_, rfl, by simpa using HO.out, HG.out⟩
theorem secC_get {l : List Sec} (h : ∀ p ∈ l, p.length = 64) (i : Nat) (hi : i < l.length) (j : Nat) (hj : j < 64) : (l.flatMap secC)[i * 64 + j]? = some (bv ((l.getD i []).getD j 0)) := by
 have : ∀ (l : List Sec) (i : Nat), (∀ p ∈ l, p.length = 64) → i < l.length → (l.flatMap secC)[i * 64 + j]? = some (bv ((l.getD i []).getD j 0)) := by
  intro l
  induction l with
  | nil => intro i _ hi; simp at hi
  | cons p l ih =>
   intro i h hi
   have hp := h p (by simp)
   have hpl : (secC p).length = 64 := by simp [secC, hp]
   cases i with
   | zero =>
    rw [List.flatMap_cons, Nat.zero_mul, Nat.zero_add, List.getElem?_append_left (by omega)]
    simp [secC, hp, hj, List.getD]
   | succ i =>
    rw [List.flatMap_cons, show (i + 1) * 64 + j = 64 + (i * 64 + j) by omega, List.getElem?_append_right (by omega), hpl, show 64 + (i * 64 + j) - 64 = i * 64 + j by omega, ih i (fun q hq => h q (by simp [hq])) (by simpa using hi)]
    simp [List.getD]
 exact this l i h hi
theorem FiOk.byt {W : World} {f : Fi} (h : FiOk W f) {g L c : Nat} (hv : f.vn = .slice (some ⟨g, 0, none⟩) L c) (i : Nat) (hi : i < f.now.length) : Byt W (.slice (some ⟨g, i * 64, none⟩) 64 64) (f.now.getD i []) := by
 have h64 : (f.now.getD i []).length = 64 := h.now64 _ (getD_mem _ _ _ hi)
 refine ⟨_, _, by rw [h64], by omega, by simp [maxLen], fun h => (by cases h), .inr ⟨g, i * 64, rfl, fun j hj => ?_⟩⟩
 have ho := h.now
 rw [hv] at ho
 have hL : L = f.now.length := by
  rcases ho.2 with ⟨e, _⟩ | ⟨_, _, _, e, _⟩
  · cases e
  · simp only [Value.slice.injEq] at e; exact e.2.1
 rw [hL] at ho
 exact own_cell ho _ _ (secC_get h.now64 i hi j (by omega))
set_option maxRecDepth 100000 in
set_option maxHeartbeats 2000000 in
theorem pReadI {w : World} {q : Nat} {x : Px} (h : PD w q x) (nm : Nm) (hn : okS nm) (n : Int) (hnI : -9223372036854775808 ≤ n ∧ n ≤ 9223372036854775807) :
 Calls Tryz.prog 77 #[.pointer (some ⟨q, 0, none⟩), sv nm, .int .i64 n] w fun e w' => ∃ v, e = .returned (.tuple #[v, .int .i64 (readP x.s nm n).1.2]) ∧ Own 5 w.heap.size w' v (readP x.s nm n).1.1 ∧ PD w' q (beginX x) ∧ (beginX x).s = (readP x.s nm n).2 ∧ TurnP q x (beginX x) w w' := by
 have HB := Lib.hid (pBeginWith h nm hn)
 unfold sv at HB ⊢
 have Hs2 : Hid ((beginX x).s = (readP x.s nm n).2) := by
  show _ = _
  rw [beginX_s]
  unfold readP
  split
  · rfl
  · split
    · rfl
    · split <;> rfl
 by_cases hf : (beginP x.s).1 = 0
 · have hr : bwR x nm = findR (nowX x).2 nm := by unfold bwR; rw [if_pos hf]
   rw [hr] at HB
   cases hd : findA (nowX x).2 nm with
   | none =>
    have hr' : findR (nowX x).2 nm = .tuple #[.int .i64 0, .int .i64 7] := by unfold findR; rw [hd]
    have Hr : Hid ((readP x.s nm n).1 = ([], 7)) := by
     show _ = _
     unfold readP
     rw [if_neg (by simpa using hf), ← beginX_s, nowX_s, show (nowX (beginX x)).2 = (nowX x).2 from rfl, hd]
    rw [hr'] at HB
    clear h hn hf hr hd hr' hnI
    go_enter Tryz.func77, Tryz.ntmps77
    go_wp2_with fail
    refine HB.out.mono ?_
    rintro e w1 ⟨rfl, hP, hT⟩
    have HP := Lib.hid hP
    have HT := Lib.hid hT
    clear hP hT
    go_wp2
    go_ret2
    exact ⟨_, by rw [Hr.out]; rfl, by rw [Hr.out]; exact Own.nil _ _ _, HP.out, Hs2.out, HT.out⟩
   | some k =>
    have hr' : findR (nowX x).2 nm = .tuple #[.int .i64 (k : Int), .int .i64 0] := by unfold findR; rw [hd]; rfl
    obtain ⟨f, hfm, hfn⟩ := h.named (nowX_mem x h.wf.ne) hd
    have Hfi := Lib.hid hfm
    have Hfn := Lib.hid hfn
    have hfp : fileP (beginX x).s k = (f.now, f.safe) := by rw [← hfn]; exact h.fileP hfm
    have Hs : Hid ((readP x.s nm n).1 = if n < 0 ∨ (f.now.length : Int) ≤ n then ([], 43) else (f.now.getD n.toNat [], 0)) := by
     show _ = _
     unfold readP
     rw [if_neg (by simpa using hf), ← beginX_s, nowX_s, show (nowX (beginX x)).2 = (nowX x).2 from rfl, hd]
     simp only [hfp]
     split <;> rfl
    have Hokp : Hid (okI k) := okI_small (by rw [← hfn]; exact Nat.le_trans (h.wf.nums f hfm) h.wf.small.2.2.2)
    have Hle := Lib.hid (h.files.ok f hfm).le
    rw [hr'] at HB
    clear h hn hf hr hd hr' hfm hfn hfp
    obtain ⟨L, HL⟩ : ∃ L, Hid (f.now.length = L) := ⟨_, rfl⟩
    obtain ⟨b, Hb⟩ : ∃ b, Hid (f.blk = b) := ⟨_, rfl⟩
    rw [HL.out] at Hs Hle
    have hLI : (L : Int) ≤ 4096 := by have := Hle.out; omega
    by_cases h1 : n < 0
    · have Hr : Hid ((readP x.s nm n).1 = ([], 43)) := by show _ = _; rw [Hs.out, if_pos (.inl h1)]
      go_enter Tryz.func77, Tryz.ntmps77
      go_wp2_with fail
      refine HB.out.mono ?_
      rintro e w1 ⟨rfl, hP, hT⟩
      have HP := Lib.hid hP
      have HT := Lib.hid hT
      have hfo := hP.files.ok f Hfi.out
      have Hfo := Lib.hid hfo
      obtain ⟨a, c, a', c', e1, e2, d0, d1⟩ := fi_form hfo
      have hlk := hP.look Hfi.out
      rw [Hfn.out, Hb.out] at hlk
      have Hlk1 := Lib.hid hlk
      have HM1 := Lib.hid hP.files.map
      have Hok1 := Lib.hid hP.okF
      have c2 := hP.cell 2 (mv (beginX x).fm) rfl
      have cr := hP.cell 0 (nv (beginX x).room) rfl
      obtain ⟨fm, Hfm⟩ : ∃ y, Hid ((beginX x).fm = y) := ⟨_, rfl⟩
      rw [Hfm.out] at c2 HM1
      rw [HL.out] at e1 e2 d0 d1
      rw [Hb.out] at d0 d1
      unfold mv at c2
      unfold nv at cr
      have E1 := Lib.hid e1
      have E2 := Lib.hid e2
      clear hP hT hfo hlk e1 e2
      go_wp2_with (at_lookup; refine wpList_lookA rfl _ _ 95 109 false rfl HM1.out keyF Hok1.out Tryz.underlying95 _ (zeroFile _) k Hokp.out rfl rfl (.pointer (some ⟨b, 0, none⟩)) (by rw [Hlk1.out]; rfl) ?_)
      go_ret2
      exact ⟨_, by rw [Hr.out]; rfl, by rw [Hr.out]; exact Own.nil _ _ _, HP.out, Hs2.out, HT.out⟩
    · by_cases h2 : (L : Int) ≤ n
      · have Hr : Hid ((readP x.s nm n).1 = ([], 43)) := by show _ = _; rw [Hs.out, if_pos (.inr h2)]
        go_enter Tryz.func77, Tryz.ntmps77
        go_wp2_with fail
        refine HB.out.mono ?_
        rintro e w1 ⟨rfl, hP, hT⟩
        have HP := Lib.hid hP
        have HT := Lib.hid hT
        have hfo := hP.files.ok f Hfi.out
        have Hfo := Lib.hid hfo
        obtain ⟨a, c, a', c', e1, e2, d0, d1⟩ := fi_form hfo
        have hlk := hP.look Hfi.out
        rw [Hfn.out, Hb.out] at hlk
        have Hlk1 := Lib.hid hlk
        have HM1 := Lib.hid hP.files.map
        have Hok1 := Lib.hid hP.okF
        have c2 := hP.cell 2 (mv (beginX x).fm) rfl
        have cr := hP.cell 0 (nv (beginX x).room) rfl
        obtain ⟨fm, Hfm⟩ : ∃ y, Hid ((beginX x).fm = y) := ⟨_, rfl⟩
        rw [Hfm.out] at c2 HM1
        rw [HL.out] at e1 e2 d0 d1
        rw [Hb.out] at d0 d1
        unfold mv at c2
        unfold nv at cr
        have E1 := Lib.hid e1
        have E2 := Lib.hid e2
        clear hP hT hfo hlk e1 e2
        go_wp2_with (at_lookup; refine wpList_lookA rfl _ _ 95 109 false rfl HM1.out keyF Hok1.out Tryz.underlying95 _ (zeroFile _) k Hokp.out rfl rfl (.pointer (some ⟨b, 0, none⟩)) (by rw [Hlk1.out]; rfl) ?_)
        go_ret2
        exact ⟨_, by rw [Hr.out]; rfl, by rw [Hr.out]; exact Own.nil _ _ _, HP.out, Hs2.out, HT.out⟩
      · obtain ⟨m, rfl⟩ : ∃ m : Nat, n = (m : Int) := ⟨n.toNat, by omega⟩
        have Hml : Hid (m < L) := by show _ < _; omega
        have hmL : (m : Int) < (L : Int) := by omega
        have Hr : Hid ((readP x.s nm (m : Int)).1 = (f.now.getD m [], 0)) := by show _ = _; rw [Hs.out, if_neg (by omega)]; rfl
        go_enter Tryz.func77, Tryz.ntmps77
        go_wp2_with fail
        refine HB.out.mono ?_
        rintro e w1 ⟨rfl, hP, hT⟩
        have HP := Lib.hid hP
        have HT := Lib.hid hT
        have hfo := hP.files.ok f Hfi.out
        have Hfo := Lib.hid hfo
        obtain ⟨a, c, a', c', e1, e2, d0, d1⟩ := fi_form hfo
        have hlk := hP.look Hfi.out
        rw [Hfn.out, Hb.out] at hlk
        have Hlk1 := Lib.hid hlk
        have HM1 := Lib.hid hP.files.map
        have Hok1 := Lib.hid hP.okF
        have c2 := hP.cell 2 (mv (beginX x).fm) rfl
        have cr := hP.cell 0 (nv (beginX x).room) rfl
        obtain ⟨fm, Hfm⟩ : ∃ y, Hid ((beginX x).fm = y) := ⟨_, rfl⟩
        rw [Hfm.out] at c2 HM1
        rw [HL.out] at e1 e2 d0 d1
        rw [Hb.out] at d0 d1
        unfold mv at c2
        unfold nv at cr
        have E1 := Lib.hid e1
        have E2 := Lib.hid e2
        clear hP hT hfo hlk e1 e2
        have hB1 := Hfo.out
        obtain ⟨g, cp, eg⟩ := own_some hB1.now (by have := Hml.out; rw [HL.out]; omega)
        rw [HL.out] at eg
        have eac := eg
        rw [E1.out] at eac
        simp only [Value.slice.injEq] at eac
        obtain ⟨rfl, -, rfl⟩ := eac
        have HBy := Lib.hid (hB1.byt eg m (by have := Hml.out; rw [HL.out]; omega))
        have H64 : Hid ((f.now.getD m []).length = 64) := hB1.now64 _ (getD_mem _ _ _ (by have := Hml.out; rw [HL.out]; omega))
        obtain ⟨sc, Hsc⟩ : ∃ y, Hid (f.now.getD m [] = y) := ⟨_, rfl⟩
        rw [Hsc.out] at HBy H64 Hr
        clear hB1 eg
        go_wp2_with (first
         | (at_lookup; refine wpList_lookA rfl _ _ 95 109 false rfl HM1.out keyF Hok1.out Tryz.underlying95 _ (zeroFile _) k Hokp.out rfl rfl (.pointer (some ⟨b, 0, none⟩)) (by rw [Hlk1.out]; rfl) ?_)
         | fail)
        have HCl := pClone g (m * 64) 64 sc w1 (by rw [H64.out]; exact HBy.out) (by rw [H64.out]; omega)
        rw [H64.out] at HCl
        refine HCl.mono ?_
        rintro e w2 ⟨v, rfl, ho, hG⟩
        have HO := Lib.hid (Own.mono ho HT.out.but.size)
        have HG := Lib.hid hG
        clear ho hG HCl
        go_wp2
        go_ret2
        exact ⟨v, by rw [Hr.out]; rfl, by rw [Hr.out]; exact HO.out, HP.out.grows HG.out, Hs2.out, HT.out.trans (TurnP.ofGrows HG.out)⟩
 · have Hr : Hid ((readP x.s nm n).1 = ([], (beginP x.s).1)) := by show _ = _; unfold readP; rw [if_pos hf]
   have hr : bwR x nm = .tuple #[.int .i64 0, .int .i64 (beginP x.s).1] := by unfold bwR; rw [if_neg hf]
   rw [hr] at HB
   obtain ⟨fc, Hfc⟩ : ∃ y, Hid ((beginP x.s).1 = y) := ⟨_, rfl⟩
   rw [Hfc.out] at HB hf Hr
   have hne : (fc == 0) = false := by simpa using hf
   clear h hn hf hr hnI
   go_enter Tryz.func77, Tryz.ntmps77
   go_wp2_with fail
   refine HB.out.mono ?_
   rintro e w1 ⟨rfl, hP, hT⟩
   have HP := Lib.hid hP
   have HT := Lib.hid hT
   clear hP hT
   go_wp2
   go_ret2
   exact ⟨_, by rw [Hr.out]; rfl, by rw [Hr.out]; exact Own.nil _ _ _, HP.out, Hs2.out, HT.out⟩
end Go.Proofs.YtoppcpiheaedlaaGreatDoor
end
section
/-
  The program's disk: a sector that is written.
-/
namespace Go.Proofs.YtoppcpiheaedlaaGreatDoor
open Go.RowKit Go.Maps Go.MapKept
set_option linter.unusedVariables false
set_option linter.unusedSimpArgs false
attribute [local go_sem] sv nv mv pv
theorem secC_len1 (p : Sec) : (secC p).length = p.length := by simp [secC]
theorem secC_one (p : Sec) : ∀ u ∈ secC p, u.oneCell' = true := by
 intro u hu
 obtain ⟨b, _, rfl⟩ := List.mem_map.1 hu
 rfl
theorem flat_set {l : List Sec} (h : ∀ p ∈ l, p.length = 64) (n : Nat) (hn : n < l.length) (p : Sec) (hp : p.length = 64) : (l.flatMap secC).take (n * 64) ++ secC p ++ (l.flatMap secC).drop (n * 64 + (secC p).length) = (l.set n p).flatMap secC := by
 have hs : (secC p).length = 64 := by rw [secC_len1, hp]
 rw [hs]
 have key : ∀ (l : List Sec) (n : Nat), (∀ p ∈ l, p.length = 64) → n < l.length → (l.flatMap secC).take (n * 64) ++ secC p ++ (l.flatMap secC).drop (n * 64 + 64) = (l.set n p).flatMap secC := by
  intro l
  induction l with
  | nil => intro n _ hn; simp at hn
  | cons a l ih =>
   intro n h hn
   have ha : (secC a).length = 64 := by rw [secC_len1]; exact h a (by simp)
   cases n with
   | zero =>
    simp only [List.flatMap_cons, List.set_cons_zero, Nat.zero_mul, List.take_zero, List.nil_append, Nat.zero_add]
    congr 1
    exact List.drop_left' ha
   | succ n =>
    have := ih n (fun q hq => h q (by simp [hq])) (by simpa using hn)
    simp only [List.flatMap_cons, List.set_cons_succ]
    rw [← this, show (n + 1) * 64 = (secC a).length + n * 64 by omega, List.take_length_add_append, show (secC a).length + n * 64 + 64 = (secC a).length + (n * 64 + 64) by omega, List.drop_length_add_append]
    simp
 exact key l n h hn
theorem FiOk.put {W : World} {f : Fi} (h : FiOk W f) {g L c : Nat} (hv : f.vn = .slice (some ⟨g, 0, none⟩) L c) (n : Nat) (hn : n < f.now.length) (p : Sec) (hp : p.length = 64) :
 ∃ cur, W.heap[g]? = some (.cells cur 106 (0, 0)) ∧ n * 64 + (secC p).length ≤ cur.size ∧ FiOk (W.setRow g (ovr cur (n * 64) (secC p))) { f with now := f.now.set n p } ∧ But (fun k => k = g) W (W.setRow g (ovr cur (n * 64) (secC p))) := by
 have ho := h.now
 rw [hv] at ho
 have hL : L = f.now.length := by
  rcases ho.2 with ⟨e, _⟩ | ⟨_, _, _, e, _⟩
  · cases e
  · simp only [Value.slice.injEq] at e; exact e.2.1
 subst hL
 obtain ⟨cur, hg, hfit, ho'⟩ := own_ovr ho (ys := secC p) (n * 64) (by rw [secC_len1, hp]; omega)
 have hB : But (fun k => k = g) W (W.setRow g (ovr cur (n * 64) (secC p))) := But.setRow (But.refl' _ _) _ _ rfl
 refine ⟨cur, hg, hfit, ⟨?_, ?_, ?_, ?_, ?_, h.safe64, ?_, h.apart⟩, hB⟩
 · refine hB.blockEq (fun e => ?_) h.row
   have := h.row
   rw [e, hg] at this
   simp at this
 · rw [flat_set h.now64 n hn p hp] at ho'
   show World.ownsRow _ _ _ _ f.vn (f.now.set n p).length _
   rw [List.length_set, hv]
   exact ho'
 · exact own_but h.safe hB fun j hj hn => h.apart g (by rw [hv]; rfl) (by rw [hj, hn])
 · show f.safe.length = (f.now.set n p).length
   rw [List.length_set]
   exact h.len
 · intro s hs
   rcases List.mem_or_eq_of_mem_set hs with hs | hs
   · exact h.now64 s hs
   · rw [hs]; exact hp
 · show (f.now.set n p).length ≤ _
   rw [List.length_set]
   exact h.le
theorem infoWr : (Tryz.prog.info? 108).map (fun i => (i.zero.map (fun z => z.cells.size), i.size, i.bytes)) = some (some 66, 66, 80) := by kernel_rfl
theorem infoWr_parts : ∃ i z, Tryz.prog.info? 108 = some i ∧ i.zero = some z ∧ i.size = 66 ∧ i.bytes = 80 ∧ z.cells.size = 66 := by
 obtain ⟨i, h1, h2⟩ := Option.map_eq_some_iff.1 infoWr
 simp only [Prod.mk.injEq] at h2
 obtain ⟨z, hz, hzs⟩ := Option.map_eq_some_iff.1 h2.1
 exact ⟨i, z, h1, hz, h2.2.1, h2.2.2, hzs⟩
theorem sizeSec : (Tryz.prog.info? 106).map (·.size) = some 64 := by kernel_rfl
theorem placesW : (match Tryz.prog.underlying 108 with | some (.struct fs) => fs.toList.mapM (fun f => (Tryz.prog.info? f.type).map fun i => (f.offset, i.size)) | _ => none) = some [(0, 1), (1, 1), (2, 64)] := by kernel_rfl
theorem ovr3 (z : Array Value) (x y : Value) (s : List Value) (hz : z.size = s.length + 2) : ovr (ovr (ovr z 0 [x]) 1 [y]) 2 s = (x :: y :: s).toArray := by
 obtain ⟨l⟩ := z
 match l, hz with
 | a :: b :: r, hz =>
  have hr : r.length = s.length := by simp at hz; omega
  simp [ovr, hr]
  omega
 | [a], hz => simp at hz
 | [], hz => simp at hz
theorem wpC_len (w : Wr) (h : w.p.length = 64) : (wpC w).length = 66 := by simp [wpC, h]
theorem wpC_one (w : Wr) : ∀ u ∈ wpC w, u.oneCell' = true := by
 intro u hu
 simp only [wpC, List.mem_cons] at hu
 rcases hu with rfl | rfl | hu
 · rfl
 · rfl
 · exact secC_one w.p u hu
theorem builtW (w : Wr) (h : w.p.length = 64) : Tryz.prog.built 108 [(0, nv w.id), (1, nv w.n), (2, .agg (secC w.p).toArray)] = some (wpC w).toArray := by
 obtain ⟨i, z, hi, hz, hs, _, hzs⟩ := infoWr_parts
 have hp := placesW
 unfold Program.built
 rw [hi]
 cases hu : Tryz.prog.underlying 108 with
 | none => rw [hu] at hp; simp at hp
 | some d =>
  rw [hu] at hp
  cases d with
  | struct fs =>
   simp only at hp ⊢
   rw [hz, hp]
   simp only
   rw [fill_step (off := 0) (size := 1) (by rfl) (by rfl) (by omega)]
   rw [fill_step (off := 1) (size := 1) (by rfl) (by rfl) (by rw [ovr_size (by show 0 + 1 ≤ _; omega)]; omega)]
   rw [fill_step (off := 2) (size := 64) (by rfl) (by show (secC w.p).toArray.size = 64; simp [secC, h]) (by rw [ovr_size (by rw [ovr_size (by show 0 + 1 ≤ _; omega)]; show 1 + 1 ≤ _; omega), ovr_size (by show 0 + 1 ≤ _; omega)]; omega)]
   show some (ovr (ovr (ovr z.cells 0 [nv w.id]) 1 [nv w.n]) 2 (secC w.p).toArray.toList) = _
   rw [List.toList_toArray, ovr3 z.cells (nv w.id) (nv w.n) (secC w.p) (by rw [hzs, secC_len1, h])]
   rfl
  | _ => simp at hp
def Px.pushW (x : Px) (v : Value) (w : Wr) : Px := { x with vp := v, pend := x.pend ++ [w] }
theorem PD.pushW {W W1 : World} {q : Nat} {x : Px} (h : PD W q x) (c : Wr) (v' : Value) (hB : But (fun k => x.vp.ownBlock = some k) W W1) (hrow : W1.ownsRow 0 108 66 v' (x.pend.length + 1) (x.pend.flatMap wpC ++ wpC c))
 (hat : v'.ownBlock = x.vp.ownBlock ∨ ∀ k, v'.ownBlock = some k → W.heap.size ≤ k) (hc : c.p.length = 64 ∧ c.id ≤ x.made ∧ c.n < 4096 ∧ ∀ f ∈ x.fs, f.num = c.id → c.n < f.now.length) (hsm : x.pend.length < 1000000) :
 PD (W1.setCell ⟨q, 4, none⟩ v') q (x.pushW v' c) ∧ TurnP q x (x.pushW v' c) W (W1.setCell ⟨q, 4, none⟩ v') := by
 have hqn : x.vp.ownBlock ≠ some q := fun e => h.qP e
 have hB2 : But (fun k => k = q ∨ x.vp.ownBlock = some k) W (W1.setCell ⟨q, 4, none⟩ v') := But.setCell (hB.mono fun k hk => .inr hk) _ _ (.inl rfl)
 have hrow1 := hB.blockEq hqn h.row
 have hm : ∀ k, pUse (x.pushW v' c) k → pUse x k ∨ W.heap.size ≤ k := fun k hk => by
  rcases hat with h' | h'
  · exact .inl (h'.symm.trans hk)
  · exact .inr (h' k hk)
 refine ⟨⟨row_setCell hrow1 4 v', ?_, ?_, ?_, h.fnd, ⟨h.wf.room, h.wf.ne, h.wf.names, h.wf.nums, ?_, h.wf.first, ?_⟩⟩, ?_, ?_, ?_⟩
 · exact h.keepD hB2 fun k hk hd => hk.elim (fun e => h.qD (e ▸ hd)) (fun e => h.dP hd e)
 · exact h.keepF hB2 fun k hk hd => hk.elim (fun e => h.qF (e ▸ hd)) (fun e => h.fP hd e)
 · show (W1.setCell ⟨q, 4, none⟩ v').ownsRow 0 _ 66 v' (x.pend ++ [c]).length ((x.pend ++ [c]).flatMap wpC)
   rw [List.length_append, List.flatMap_append]
   simp only [List.length_cons, List.length_nil, List.flatMap_cons, List.flatMap_nil, List.append_nil]
   exact setCell_own hrow1 4 v' hrow (by decide)
 · intro w hw
   rcases List.mem_append.1 hw with hw | hw
   · exact h.wf.pend w hw
   · rw [List.mem_singleton.1 hw]; exact hc
 · have := h.wf.small
   refine ⟨this.1, this.2.1, ?_, this.2.2.2⟩
   show (x.pend ++ [c]).length ≤ _
   rw [List.length_append]
   exact hsm
 · intro k hk
   rcases hk with hk | hk | hk | hk
   · exact .inl (.inl hk)
   · exact .inl (.inr (.inl hk))
   · exact .inl (.inr (.inr (.inl hk)))
   · exact (hm k hk).imp (fun h' => .inr (.inr (.inr h'))) id
 · intro k hk
   rcases hk with hk | hk | hk | hk
   · exact .inl (.inl hk)
   · exact .inl (.inr (.inl hk))
   · exact .inl (.inr (.inr (.inl hk)))
   · exact (hm k hk).imp (fun h' => .inr (.inr (.inr h'))) id
 · exact hB2.mono fun k hk => hk.elim .inl fun h' => .inr (.inr (.inr h'))
theorem wpC_flat {l : List Wr} (h : ∀ w ∈ l, w.p.length = 64) : (l.flatMap wpC).length = l.length * 66 := by
 induction l with
 | nil => rfl
 | cons a l ih =>
  rw [List.flatMap_cons, List.length_append, ih (fun w hw => h w (by simp [hw])), wpC_len a (h a (by simp)), List.length_cons]
  omega
theorem HL_ofK {α : Type} (n k : Nat) (xs ys : List α) (hx : xs.length = n * k) (hy : ys.length = k) (hk : 0 < k) : ∀ p ∈ [(n, xs), (1, ys), (n + 1, xs ++ ys)], p.1 ≤ n ∨ (p.1 ≤ n + 1 ∧ p.2 = (xs ++ ys).take (p.1 * k)) := by
 intro p hp
 simp only [List.mem_cons, List.not_mem_nil, or_false] at hp
 rcases hp with rfl | rfl | rfl
 · left; exact Nat.le_refl _
 · rcases Nat.eq_zero_or_pos n with h0 | h0
   · right
     have : xs = [] := List.eq_nil_of_length_eq_zero (by rw [hx, h0, Nat.zero_mul])
     rw [this, List.nil_append]
     exact ⟨by show 1 ≤ n + 1; omega, by rw [List.take_of_length_le]; show ys.length ≤ 1 * k; omega⟩
   · left; exact h0
 · right
   refine ⟨Nat.le_refl _, ?_⟩
   rw [List.take_of_length_le]
   rw [List.length_append, hx, hy, Nat.add_mul, Nat.one_mul]
   exact Nat.le_refl _
set_option maxRecDepth 100000 in
set_option maxHeartbeats 4000000 in
theorem pWriteI {w : World} {q : Nat} {x : Px} (h : PD w q x) (nm : Nm) (hn : okS nm) (n : Int) (hnI : -9223372036854775808 ≤ n ∧ n ≤ 9223372036854775807) (vp : Value) (p : List UInt8) (hp : Byt w vp p) (hout : Outside (mutP q x) vp) (hpl : p.length ≤ 1000000000000) (hsm : x.pend.length < 1000000) :
 Calls Tryz.prog 76 #[.pointer (some ⟨q, 0, none⟩), sv nm, .int .i64 n, vp] w fun e w' => e = .returned (.int .i64 (writeP x.s nm n p).1) ∧ ∃ x', PD w' q x' ∧ x'.s = (writeP x.s nm n p).2 ∧ TurnP q x x' w w' := by
 have hmx : Tryz.prog.follows .mixedOrders = true := by kernel_rfl
 have HB := Lib.hid (pBeginWith h nm hn)
 unfold sv at HB ⊢
 obtain ⟨ap, cp, rfl⟩ := hp.slice
 have HPp := Lib.hid hp
 have Hout := Lib.hid hout
 obtain ⟨pl, Hpl⟩ : ∃ y, Hid (p.length = y) := ⟨_, rfl⟩
 rw [Hpl.out] at HPp Hout hpl ⊢
 have hplI : (pl : Int) ≤ 1000000000000 := by omega
 have Hsm := Lib.hid hsm
 by_cases hf : (beginP x.s).1 = 0
 · have hr : bwR x nm = findR (nowX x).2 nm := by unfold bwR; rw [if_pos hf]
   rw [hr] at HB
   cases hd : findA (nowX x).2 nm with
   | none =>
    have hr' : findR (nowX x).2 nm = .tuple #[.int .i64 0, .int .i64 7] := by unfold findR; rw [hd]
    have Hr : Hid (writeP x.s nm n p = (7, (beginX x).s)) := by
     show _ = _
     unfold writeP
     rw [guardP_yes hf, ← beginX_s, nowX_s, show (nowX (beginX x)).2 = (nowX x).2 from rfl, hd]
    rw [hr'] at HB
    clear h hn hf hr hd hr' hnI hp hout hsm
    go_enter Tryz.func76, Tryz.ntmps76
    go_wp2_with fail
    refine HB.out.mono ?_
    rintro e w1 ⟨rfl, hP, hT⟩
    have HP := Lib.hid hP
    have HT := Lib.hid hT
    clear hP hT
    go_wp2
    go_ret
    exact ⟨by rw [Hr.out]; rfl, beginX x, HP.out, by rw [Hr.out], HT.out⟩
   | some k =>
    have hr' : findR (nowX x).2 nm = .tuple #[.int .i64 (k : Int), .int .i64 0] := by unfold findR; rw [hd]; rfl
    obtain ⟨f, hfm, hfn⟩ := h.named (nowX_mem x h.wf.ne) hd
    have Hfi := Lib.hid hfm
    have Hfn := Lib.hid hfn
    have hfp : fileP (beginX x).s k = (f.now, f.safe) := by rw [← hfn]; exact h.fileP hfm
    have Hs : Hid (writeP x.s nm n p = if n < 0 ∨ (f.now.length : Int) ≤ n then (43, (beginX x).s) else if p.length ≠ 64 then (2, (beginX x).s)
     else (0, { (beginX x).s with files := setFile (beginX x).s.files k (f.now.set n.toNat p, f.safe), pend := (beginX x).s.pend ++ [⟨k, n.toNat, p⟩] })) := by
     show _ = _
     unfold writeP
     rw [guardP_yes hf, ← beginX_s, nowX_s, show (nowX (beginX x)).2 = (nowX x).2 from rfl, hd]
     simp only [hfp]
    have Hokp : Hid (okI k) := okI_small (by rw [← hfn]; exact Nat.le_trans (h.wf.nums f hfm) h.wf.small.2.2.2)
    have Hkm : Hid (k ≤ x.made) := by show _ ≤ _; rw [← hfn]; exact h.wf.nums f hfm
    have Hle := Lib.hid (h.files.ok f hfm).le
    rw [hr'] at HB
    clear h hn hf hr hd hr' hfm hfn hfp hp hout hsm
    obtain ⟨L, HL⟩ : ∃ L, Hid (f.now.length = L) := ⟨_, rfl⟩
    obtain ⟨b, Hb⟩ : ∃ b, Hid (f.blk = b) := ⟨_, rfl⟩
    rw [HL.out, Hpl.out] at Hs
    rw [HL.out] at Hle
    have hLI : (L : Int) ≤ 4096 := by have := Hle.out; omega
    by_cases h1 : n < 0
    · have Hr : Hid (writeP x.s nm n p = (43, (beginX x).s)) := by show _ = _; rw [Hs.out, if_pos (.inl h1)]
      go_enter Tryz.func76, Tryz.ntmps76
      go_wp2_with fail
      refine HB.out.mono ?_
      rintro e w1 ⟨rfl, hP, hT⟩
      have HP := Lib.hid hP
      have HT := Lib.hid hT
      have hfo := hP.files.ok f Hfi.out
      have Hfo := Lib.hid hfo
      obtain ⟨a, c, a', c', e1, e2, d0, d1⟩ := fi_form hfo
      have hlk := hP.look Hfi.out
      rw [Hfn.out, Hb.out] at hlk
      have Hlk1 := Lib.hid hlk
      have HM1 := Lib.hid hP.files.map
      have Hok1 := Lib.hid hP.okF
      have c2 := hP.cell 2 (mv (beginX x).fm) rfl
      have cr := hP.cell 0 (nv (beginX x).room) rfl
      obtain ⟨fm, Hfm⟩ : ∃ y, Hid ((beginX x).fm = y) := ⟨_, rfl⟩
      rw [Hfm.out] at c2 HM1
      rw [HL.out] at e1 e2 d0 d1
      rw [Hb.out] at d0 d1
      unfold mv at c2
      unfold nv at cr
      have E1 := Lib.hid e1
      have E2 := Lib.hid e2
      clear hP hT hfo hlk e1 e2
      go_wp2_with (at_lookup; refine wpList_lookA rfl _ _ 95 109 false rfl HM1.out keyF Hok1.out Tryz.underlying95 _ (zeroFile _) k Hokp.out rfl rfl (.pointer (some ⟨b, 0, none⟩)) (by rw [Hlk1.out]; rfl) ?_)
      go_ret
      exact ⟨by rw [Hr.out]; rfl, beginX x, HP.out, by rw [Hr.out], HT.out⟩
    · by_cases h2 : (L : Int) ≤ n
      · have Hr : Hid (writeP x.s nm n p = (43, (beginX x).s)) := by show _ = _; rw [Hs.out, if_pos (.inr h2)]
        go_enter Tryz.func76, Tryz.ntmps76
        go_wp2_with fail
        refine HB.out.mono ?_
        rintro e w1 ⟨rfl, hP, hT⟩
        have HP := Lib.hid hP
        have HT := Lib.hid hT
        have hfo := hP.files.ok f Hfi.out
        have Hfo := Lib.hid hfo
        obtain ⟨a, c, a', c', e1, e2, d0, d1⟩ := fi_form hfo
        have hlk := hP.look Hfi.out
        rw [Hfn.out, Hb.out] at hlk
        have Hlk1 := Lib.hid hlk
        have HM1 := Lib.hid hP.files.map
        have Hok1 := Lib.hid hP.okF
        have c2 := hP.cell 2 (mv (beginX x).fm) rfl
        have cr := hP.cell 0 (nv (beginX x).room) rfl
        obtain ⟨fm, Hfm⟩ : ∃ y, Hid ((beginX x).fm = y) := ⟨_, rfl⟩
        rw [Hfm.out] at c2 HM1
        rw [HL.out] at e1 e2 d0 d1
        rw [Hb.out] at d0 d1
        unfold mv at c2
        unfold nv at cr
        have E1 := Lib.hid e1
        have E2 := Lib.hid e2
        clear hP hT hfo hlk e1 e2
        go_wp2_with (at_lookup; refine wpList_lookA rfl _ _ 95 109 false rfl HM1.out keyF Hok1.out Tryz.underlying95 _ (zeroFile _) k Hokp.out rfl rfl (.pointer (some ⟨b, 0, none⟩)) (by rw [Hlk1.out]; rfl) ?_)
        go_ret
        exact ⟨by rw [Hr.out]; rfl, beginX x, HP.out, by rw [Hr.out], HT.out⟩
      · by_cases h3 : pl = 64
        · obtain ⟨m, rfl⟩ : ∃ m : Nat, n = (m : Int) := ⟨n.toNat, by omega⟩
          have Hml : Hid (m < L) := by show _ < _; omega
          have hmL : (m : Int) < (L : Int) := by omega
          have Hr : Hid (writeP x.s nm (m : Int) p = (0, { (beginX x).s with files := setFile (beginX x).s.files k (f.now.set m p, f.safe), pend := (beginX x).s.pend ++ [⟨k, m, p⟩] })) := by
           show _ = _; rw [Hs.out, if_neg (by omega), if_neg (by simpa using h3)]; rfl
          subst h3
          clear Hs hplI hpl hnI
          go_enter Tryz.func76, Tryz.ntmps76
          go_wp2_with fail
          refine HB.out.mono ?_
          rintro e w1 ⟨rfl, hP, hT⟩
          have HP := Lib.hid hP
          have HT := Lib.hid hT
          have hfo := hP.files.ok f Hfi.out
          have Hfo := Lib.hid hfo
          obtain ⟨a, c, a', c', e1, e2, d0, d1⟩ := fi_form hfo
          have hlk := hP.look Hfi.out
          rw [Hfn.out, Hb.out] at hlk
          have Hlk1 := Lib.hid hlk
          have HM1 := Lib.hid hP.files.map
          have Hok1 := Lib.hid hP.okF
          have c2 := hP.cell 2 (mv (beginX x).fm) rfl
          have cr := hP.cell 0 (nv (beginX x).room) rfl
          obtain ⟨fm, Hfm⟩ : ∃ y, Hid ((beginX x).fm = y) := ⟨_, rfl⟩
          rw [Hfm.out] at c2 HM1
          rw [HL.out] at e1 e2 d0 d1
          rw [Hb.out] at d0 d1
          unfold mv at c2
          unfold nv at cr
          have E1 := Lib.hid e1
          have E2 := Lib.hid e2
          clear hP hT hfo hlk e1 e2
          have hByt := HPp.out.but HT.out.but Hout.out
          obtain ⟨pb, po, hap, hpc⟩ : ∃ pb po, ap = some ⟨pb, po, none⟩ ∧ ∀ i, i < p.length → w1.cell? ⟨pb, po + i, none⟩ = some (bv (p.getD i 0)) := by
           obtain ⟨_, _, e, _, _, _, h4⟩ := hByt
           simp only [Value.slice.injEq] at e
           obtain ⟨rfl, -, rfl⟩ := e
           rcases h4 with h4 | ⟨pb, po, h4, h5⟩
           · have := Hpl.out; rw [h4] at this; simp at this
           · exact ⟨pb, po, h4, h5⟩
          subst hap
          have HPr : Hid (∀ j u, (secC p)[j]? = some u → w1.cell? ⟨pb, po + j, none⟩ = some u) := fun j u hu => by
           have hj : j < p.length := by have := (List.getElem?_eq_some_iff.1 hu).1; rw [secC_len1] at this; exact this
           rw [hpc j hj, ← hu]
           show _ = (p.map bv)[j]?
           simp [List.getD, hj]
          obtain ⟨g, cg, eg⟩ := own_some Hfo.out.now (by have := Hml.out; rw [HL.out]; omega)
          rw [HL.out] at eg
          have eac := eg
          rw [E1.out] at eac
          simp only [Value.slice.injEq] at eac
          obtain ⟨rfl, -, rfl⟩ := eac
          clear hByt hpc HPp Hout
          have Eg := Lib.hid eg
          clear eg
          go_wp2_with (first | (at_lookup; refine wpList_lookA rfl _ _ 95 109 false rfl HM1.out keyF Hok1.out Tryz.underlying95 _ (zeroFile _) k Hokp.out rfl rfl (.pointer (some ⟨b, 0, none⟩)) (by rw [Hlk1.out]; rfl) ?_) | go_in)
          have eg := Eg.out
          have cXa := fun X (hX : Grows _ X) => Grows.cell' hX d0
          refine specs_last 9
           #[[], [0], [0, 1], [0, 1, 2], [], [], [5], [5, 6], [0, 1, 2, 3, 4, 5, 6, 7], [0, 1, 2, 3, 4, 5, 6, 7, 8]] #[[11], [], [], [], [2], [3], [], [], [], []] #[true, true, true, true, true, true, true, true, true, true]
           ((.val ?va0) :: (.val ?va1) :: (.val ?va2) :: (.val ?va3) :: (.val ?va4) :: (.val ?va5) :: (.val (.pointer (some ⟨pb, po, none⟩))) :: (.val (.agg (secC p).toArray)) :: (.val ?va8) :: (.any) :: []).toArray
           hmx ?chka ?grda rfl ?stpa ?rsta
          case chka => rfl
          case stpa =>
           refine ⟨?_, ?_, ?_, ?_, ?_, ?_, ?_, ?_, ?_, ?_, trivial⟩
           · refine stepO 11 ?va0 rfl (fun _ _ => rfl) rfl (fun _ => rfl) (by decide) ?_; show (.pointer (some ⟨b, 0, none⟩) : Value) = _; rfl
           · refine stepR (o := ⟨_, .nilCheck (.tmp 41), _, _, _, _⟩) ?va1 rfl rfl (fun _ => rfl) fun ρ X hc hf hgl hX hp ho => ?_; have k41 : ρ (.tmp 41) = ?va0 := hp 0 (by decide); clear hp ho hX; go_simp; (all_goals rfl)
           · refine stepR (o := ⟨_, .fieldAddr 113 (.tmp 42) 0, _, _, _, _⟩) ?va2 rfl rfl (fun _ => rfl) fun ρ X hc hf hgl hX hp ho => ?_; have k42 : ρ (.tmp 42) = ?va1 := hp 1 (by decide); clear hp ho hX; go_simp; (all_goals rfl)
           · refine stepR (o := ⟨_, .load 110 (.tmp 43), _, _, _, _⟩) ?va3 rfl rfl (fun _ => rfl) fun ρ X hc hf hgl hX hp ho => ?_; have k43 : ρ (.tmp 43) = ?va2 := hp 2 (by decide); have cX := cXa X hX; clear hp ho hX; go_simp; (all_goals rfl)
           · refine stepO 2 ?va4 rfl (fun _ _ => rfl) rfl (fun _ => rfl) (by decide) ?_; show (.int .i64 (m : Int) : Value) = _; rfl
           · refine stepO 3 ?va5 rfl (fun _ _ => rfl) rfl (fun _ => rfl) (by decide) ?_; show (.slice (some ⟨pb, po, none⟩) 64 cp : Value) = _; rfl
           · refine step_intro rfl rfl fun ρ X hc hf hgl hX hp ho => ?_
             change StepOk _ ⟨_, .sliceToArrayPointer 106 (.tmp 46), _, _, _, _⟩ _ _ _
             have k46 : ρ (.tmp 46) = ?va5 := hp 5 (by decide)
             clear hp ho
             refine StepOk.of_run (v := .pointer (some ⟨pb, po, none⟩)) (w' := X) ?_ ⟨rfl, Below.refl _ _⟩
             simp [execOp, Instr.arrayAt, run_underlying Tryz.underlying106, k46]
           · refine step_intro rfl rfl fun ρ X hc hf hgl hX hp ho => ?_
             change StepOk _ ⟨_, .load 106 (.tmp 47), _, _, _, _⟩ _ _ _
             have k47 : ρ (.tmp 47) = (.pointer (some ⟨pb, po, none⟩)) := hp 6 (by decide)
             refine stepOk_loadPart 106 _ rfl pb po (secC p) _ k47 (fun j u hu => Grows.cell' hX (HPr.out j u hu)) Tryz.underlying106 rfl (by rw [sizeSec, secC_len1, Hpl.out]) ⟨rfl, Below.refl _ _⟩
           · refine stepR (o := ⟨_, .indexAddr 110 (.tmp 44) (.tmp 45), _, _, _, _⟩) ?va8 rfl rfl (fun _ => rfl) fun ρ X hc hf hgl hX hp ho => ?_; have k44 : ρ (.tmp 44) = ?va3 := hp 3 (by decide); have k45 : ρ (.tmp 45) = ?va4 := hp 4 (by decide); clear hp ho hX; go_simp; (all_goals try go_bits); (all_goals try simp only [IntWalk.iteOmega]); (all_goals try go_bits); (all_goals rfl)
           · exact last_intro rfl
          case grda => rfl
          case rsta =>
           intro a0 X hb
           have hfr := hb.frame ((41, ?va0) :: (42, ?va1) :: (43, ?va2) :: (44, ?va3) :: (45, ?va4) :: (46, ?va5) :: (47, (.pointer (some ⟨pb, po, none⟩))) :: (48, (.agg (secC p).toArray)) :: (49, ?va8) :: []) rfl ⟨hb.done' 0 41 rfl rfl, hb.done' 1 42 rfl rfl, hb.done' 2 43 rfl rfl, hb.done' 3 44 rfl rfl, hb.done' 4 45 rfl rfl, hb.done' 5 46 rfl rfl, hb.done' 6 47 rfl rfl, hb.done' 7 48 rfl rfl, hb.done' 8 49 rfl rfl, trivial⟩
           simp only [updL, ↓reduceIte, Nat.reduceEqDiff, Nat.reduceAdd, Nat.zero_add] at hfr
           have HX := Lib.hid hb.ext
           clear hb cXa
           subst hfr
           change StepOk _ { dst := _, op := Op.store 106 (Operand.tmp 49) (Operand.tmp 48), type := _, pos := _, after := _, guard := _ } _ _ _
           have hfX := Hfo.out.kept (HX.out.block _ (Array.getElem?_eq_some_iff.1 Hfo.out.row).1) fun j hj => HX.out.block _ (kind_lt (Hfo.out.kind hj))
           obtain ⟨cur, hgc, hfit, hf9, hB9⟩ := hfX.put eg m (by have := Hml.out; rw [HL.out]; omega) p Hpl.out
           refine stepOk_storePart 106 _ _ rfl g (m * 64) 106 cur (secC p) _ rfl rfl rfl hgc hfit (by rw [sizeSec, secC_len1, Hpl.out]) (secC_one p) ?_
           have hset := (HP.out.grows HX.out).setF f { f with now := f.now.set m p } Hfi.out rfl rfl hB9 (fun j hj => .inr (.inl (.inl (by rw [eg, hj]; rfl)))) hf9 (fun j hj => .inl hj) (by simp)
           obtain ⟨w9, hw9⟩ : ∃ y, X.setRow g (ovr cur (m * 64) (secC p)) = y := ⟨_, rfl⟩
           rw [hw9] at hset hf9 ⊢
           have HR2 := Lib.hid hset.1
           have HT9 : Hid (TurnP q x ((beginX x).setF { f with now := f.now.set m p }) w w9) := (HT.out.trans (TurnP.ofGrows HX.out)).trans hset.2
           have HF9 := Lib.hid hf9
           clear hfX hgc hfit hB9 hset hw9 HX cur hf9 X
           obtain ⟨i0, z0, hi, hz, hs2, hb2, hzs⟩ := infoWr_parts
           have c0 : w9.cell? ⟨b, 0, none⟩ = some (.slice (some ⟨g, 0, none⟩) L c) := by have := cell_of_row w9 f.blk 0 _ _ _ HF9.out.row; rw [Hb.out] at this; rw [this]; show some f.vn = _; rw [eg]
           have hr9 := HF9.out.row
           rw [show ({ f with now := f.now.set m p } : Fi).blk = f.blk from rfl, Hb.out] at hr9
           have hgk : kindAt w9 g = some (some 106) := HF9.out.kind (.inl (by show f.vn.ownBlock = _; rw [eg]; rfl))
           have HSr : Hid (∀ j u, (secC p)[j]? = some u → w9.cell? ⟨g, m * 64 + j, none⟩ = some u) := fun j u hu => by
            have hj : j < 64 := by have := (List.getElem?_eq_some_iff.1 hu).1; rw [secC_len1, Hpl.out] at this; exact this
            have ho := HF9.out.now
            rw [show ({ f with now := f.now.set m p } : Fi).vn = f.vn from rfl, eg] at ho
            have hl9 : ({ f with now := f.now.set m p } : Fi).now.length = L := by show (f.now.set m p).length = L; rw [List.length_set]; exact HL.out
            rw [hl9] at ho
            refine own_cell ho _ _ ?_
            rw [secC_get HF9.out.now64 m (by rw [hl9]; exact Hml.out) j hj]
            rw [← hu]
            show _ = (p.map bv)[j]?
            have hmm : m < f.now.length := by rw [HL.out]; exact Hml.out
            have hjp : j < p.length := by rw [Hpl.out]; exact hj
            simp [List.getD, hmm, hjp]
           obtain ⟨aw, cw, e1⟩ := own_form HR2.out.pend
           have c4 := HR2.out.cell 4 x.vp rfl
           have hnq : ¬ (x.vp.ownBlock = some q) := fun e => HR2.out.qP e
           have hnb : ¬ (x.vp.ownBlock = some b) := own_ne HR2.out.pend hr9 (by decide)
           have hng : ¬ (x.vp.ownBlock = some g) := fun e => by have h1 := kind_own HR2.out.pend e; rw [hgk] at h1; simp at h1
           have hown : w9.ownsRow 0 108 66 x.vp x.pend.length (x.pend.flatMap wpC) := HR2.out.pend
           have Hwf : Hid (p.length = 64 ∧ k ≤ x.made ∧ m < 4096 ∧ ∀ g' ∈ ((beginX x).setF { f with now := f.now.set m p }).fs, g'.num = k → m < g'.now.length) := by
            refine ⟨Hpl.out, Hkm.out, by have := Hml.out; have := Hle.out; omega, fun g' hg' he => ?_⟩
            rcases setF_mem (x := beginX x) (f := f) (f' := { f with now := f.now.set m p }) Hfi.out rfl hg' with h' | ⟨h', h''⟩
            · rw [h']; show m < (f.now.set m p).length; rw [List.length_set, HL.out]; exact Hml.out
            · exact absurd (he.trans Hfn.out.symm) h''
           obtain ⟨nw, HnW2⟩ : ∃ n, Hid (x.pend.length = n) := ⟨_, rfl⟩
           obtain ⟨xs, Hxs⟩ : ∃ xs, Hid (x.pend.flatMap wpC = xs) := ⟨_, rfl⟩
           obtain ⟨ws, Hws⟩ : ∃ y, Hid (w9.heap.size = y) := ⟨_, rfl⟩
           have Hvw : Hid (x.vp = .slice aw nw cw) := by show _ = _; rw [← HnW2.out]; exact e1
           rw [Hvw.out] at c4 hnq hnb hng hown
           rw [HnW2.out, Hxs.out] at hown
           have HnW : Hid (nw < 1000000) := by show _ < _; rw [← HnW2.out]; exact Hsm.out
           have HnW3 : Hid (x.pend.length < 1000000) := Hsm.out
           have HLL : Hid (∀ p' ∈ [(nw, xs), (1, wpC ⟨k, m, p⟩), (nw + 1, xs ++ wpC ⟨k, m, p⟩)], p'.1 ≤ nw ∨ (p'.1 ≤ nw + 1 ∧ p'.2 = (xs ++ wpC ⟨k, m, p⟩).take (p'.1 * 66))) := HL_ofK nw 66 xs (wpC ⟨k, m, p⟩) hown.1 (wpC_len ⟨k, m, p⟩ Hpl.out) (by omega)
           have Hown := Lib.hid hown
           clear e1 hown hgk hr9
           go_wp2
           have cXe := fun X (hX : (EApp (fun k => Value.ownBlock (.slice aw nw cw) = some k) 108 66 [(nw, xs), (1, wpC ⟨k, m, p⟩), (nw + 1, xs ++ wpC ⟨k, m, p⟩)]) _ X) => And.intro (hX.but.cell (p := ⟨q, _, none⟩) hnq c4) (hX.but.cell (p := ⟨b, _, none⟩) hnb c0)
           refine region_K_last (E := (EApp (fun k => Value.ownBlock (.slice aw nw cw) = some k) 108 66 [(nw, xs), (1, wpC ⟨k, m, p⟩), (nw + 1, xs ++ wpC ⟨k, m, p⟩)])) (EApp.ok (fun k => Value.ownBlock (.slice aw nw cw) = some k) 108 66 [(nw, xs), (1, wpC ⟨k, m, p⟩), (nw + 1, xs ++ wpC ⟨k, m, p⟩)]) EApp.ofGrows 19
            #[[], [], [1], [1, 2], [1, 2, 3], [], [], [], [7], [7, 8], [7, 8, 9], [], [7, 8, 9, 10, 11], [7, 8, 9, 10, 11, 12], [5, 6, 7, 8, 9, 10, 11, 12, 13], [5, 6, 7, 8, 9, 10, 11, 12, 13, 14], [1, 2, 3, 4, 5, 6, 7, 8, 9, 10, 11, 12, 13, 14, 15], [0, 1, 2, 3, 4, 5, 6, 7, 8, 9, 10, 11, 12, 13, 14, 15, 16], [0, 1, 2, 3, 4, 5, 6, 7, 8, 9, 10, 11, 12, 13, 14, 15, 16, 17], [0, 1, 2, 3, 4, 5, 6, 7, 8, 9, 10, 11, 12, 13, 14, 15, 16, 17, 18]] #[[0], [0], [], [], [], [9], [2], [11], [], [], [], [2], [], [], [], [], [], [], [], []] #[true, true, true, true, true, true, true, true, true, true, true, true, true, true, true, true, true, true, true, true]
            ((.val ?ve0) :: (.val ?ve1) :: (.val ?ve2) :: (.val ?ve3) :: (.val ?ve4) :: (.val ?ve5) :: (.val ?ve6) :: (.val ?ve7) :: (.val ?ve8) :: (.val ?ve9) :: (.val ?ve10) :: (.val ?ve11) :: (.val ?ve12) :: (.val (.agg (secC p).toArray)) :: (.val (.agg (wpC ⟨k, m, p⟩).toArray)) :: (.pred (fun v W => W.ownsRow 0 108 66 v 1 (wpC ⟨k, m, p⟩) ∧ ∃ g, v = .slice (some ⟨g, 0, none⟩) 1 1) (fun v a b h ho => ⟨EApp.own (by simp) v a b h ho.1, ho.2⟩)) :: (.pred (fun v W => W.ownsRow 0 108 66 v (nw + 1) (xs ++ wpC ⟨k, m, p⟩) ∧ (v.ownBlock = Value.ownBlock (.slice aw nw cw) ∨ ∀ j, v.ownBlock = some j → ws ≤ j)) (fun v a b h ho => ⟨EApp.own (by simp) v a b h ho.1, ho.2⟩)) :: (.val ?ve17) :: (.val ?ve18) :: (.any) :: []).toArray
            (noState [16])
            (fun _ _ _ _ _ _ _ _ => trivial)
            (fun _ _ => trivial)
            hmx ?chke rfl ?grde rfl ?stpe ?rste
           case chke => rfl
           case stpe =>
            refine ⟨?_, ?_, ?_, ?_, ?_, ?_, ?_, ?_, ?_, ?_, ?_, ?_, ?_, ?_, ?_, ?_, ?_, ?_, ?_, ?_, trivial⟩
            · refine stepOK 0 ?ve0 rfl (fun _ _ => rfl) rfl rfl (fun _ => rfl) (by decide) ?_; show (.pointer (some ⟨q, 0, none⟩) : Value) = _; rfl
            · refine stepOK 0 ?ve1 rfl (fun _ _ => rfl) rfl rfl (fun _ => rfl) (by decide) ?_; show (.pointer (some ⟨q, 0, none⟩) : Value) = _; rfl
            · refine stepRK (o := ⟨_, .nilCheck (.tmp 51), _, _, _, _⟩) ?ve2 rfl rfl rfl (fun _ => rfl) fun ρ X hc hf hgl hX hp ho => ?_; have k51 : ρ (.tmp 51) = ?ve1 := hp 1 (by decide); clear hp ho hX; go_simp; (all_goals rfl)
            · refine stepRK (o := ⟨_, .fieldAddr 100 (.tmp 52) 4, _, _, _, _⟩) ?ve3 rfl rfl rfl (fun _ => rfl) fun ρ X hc hf hgl hX hp ho => ?_; have k52 : ρ (.tmp 52) = ?ve2 := hp 2 (by decide); clear hp ho hX; go_simp; (all_goals rfl)
            · refine stepRK (o := ⟨_, .load 96 (.tmp 53), _, _, _, _⟩) ?ve4 rfl rfl rfl (fun _ => rfl) fun ρ X hc hf hgl hX hp ho => ?_; have k53 : ρ (.tmp 53) = ?ve3 := hp 3 (by decide); have cX := cXe X hX; clear hp ho hX; go_simp; (all_goals rfl)
            · refine stepOK 9 ?ve5 rfl (fun _ _ => rfl) rfl rfl (fun _ => rfl) (by decide) ?_; show (.int .i64 (k : Int) : Value) = _; rfl
            · refine stepOK 2 ?ve6 rfl (fun _ _ => rfl) rfl rfl (fun _ => rfl) (by decide) ?_; show (.int .i64 (m : Int) : Value) = _; rfl
            · refine stepOK 11 ?ve7 rfl (fun _ _ => rfl) rfl rfl (fun _ => rfl) (by decide) ?_; show (.pointer (some ⟨b, 0, none⟩) : Value) = _; rfl
            · refine stepRK (o := ⟨_, .nilCheck (.tmp 57), _, _, _, _⟩) ?ve8 rfl rfl rfl (fun _ => rfl) fun ρ X hc hf hgl hX hp ho => ?_; have k57 : ρ (.tmp 57) = ?ve7 := hp 7 (by decide); clear hp ho hX; go_simp; (all_goals rfl)
            · refine stepRK (o := ⟨_, .fieldAddr 113 (.tmp 58) 0, _, _, _, _⟩) ?ve9 rfl rfl rfl (fun _ => rfl) fun ρ X hc hf hgl hX hp ho => ?_; have k58 : ρ (.tmp 58) = ?ve8 := hp 8 (by decide); clear hp ho hX; go_simp; (all_goals rfl)
            · refine stepRK (o := ⟨_, .load 110 (.tmp 59), _, _, _, _⟩) ?ve10 rfl rfl rfl (fun _ => rfl) fun ρ X hc hf hgl hX hp ho => ?_; have k59 : ρ (.tmp 59) = ?ve9 := hp 9 (by decide); have cX := cXe X hX; clear hp ho hX; go_simp; (all_goals rfl)
            · refine stepOK 2 ?ve11 rfl (fun _ _ => rfl) rfl rfl (fun _ => rfl) (by decide) ?_; show (.int .i64 (m : Int) : Value) = _; rfl
            · refine stepRK (o := ⟨_, .indexAddr 110 (.tmp 60) (.tmp 61), _, _, _, _⟩) ?ve12 rfl rfl rfl (fun _ => rfl) fun ρ X hc hf hgl hX hp ho => ?_; have k60 : ρ (.tmp 60) = ?ve10 := hp 10 (by decide); have k61 : ρ (.tmp 61) = ?ve11 := hp 11 (by decide); clear hp ho hX; go_simp; (all_goals try go_bits); (all_goals try simp only [IntWalk.iteOmega]); (all_goals try go_bits); (all_goals rfl)
            · refine step_introK rfl rfl fun ρ X hc hf hgl hX hp ho hu => ?_
              change StepOk _ ⟨_, .load 106 (.tmp 62), _, _, _, _⟩ _ _ _
              have k62 : ρ (.tmp 62) = ?ve12 := hp 12 (by decide)
              refine stepK_plain (i := 13) rfl ?_
              clear hu
              refine stepOk_loadPart 106 _ rfl g (m * 64) (secC p) _ k62 (fun j u hu => hX.but.cell (p := ⟨g, _, none⟩) hng (HSr.out j u hu)) Tryz.underlying106 rfl (by rw [sizeSec, secC_len1, Hpl.out]) ⟨rfl, Below.refl _ _⟩
            · refine step_introK rfl rfl fun ρ X hc hf hgl hX hp ho hu => ?_
              change StepOk _ ⟨_, .build 108 #[(0, .tmp 55), (1, .tmp 56), (2, .tmp 63)], _, _, _, _⟩ _ _ _
              have k55 : ρ (.tmp 55) = ?ve5 := hp 5 (by decide)
              have k56 : ρ (.tmp 56) = ?ve6 := hp 6 (by decide)
              have k63 : ρ (.tmp 63) = (.agg (secC p).toArray) := hp 13 (by decide)
              refine stepK_plain (i := 14) rfl ?_
              clear hu
              clear hp ho
              have hbu := run_build (P := Tryz.prog) X 108 #[(0, nv k), (1, nv m), (2, .agg (secC p).toArray)] _ (builtW ⟨k, m, p⟩ Hpl.out)
              refine StepOk.of_run (v := .agg (wpC ⟨k, m, p⟩).toArray) (w' := X) ?_ ⟨rfl, Below.refl _ _⟩
              unfold nv at hbu
              simp only [execOp, List.map_toArray, List.map_cons, List.map_nil, k55, k56, k63, hbu, Sem.run_bind, Result.andThen_ok, Sem.run_pure]
            · refine step_introK rfl rfl fun ρ X hc hf hgl hX hp ho hu => ?_
              change StepOk _ ⟨_, .buildSlice 96 1 #[(0, .tmp 64)], _, _, _, _⟩ _ _ _
              have k64 : ρ (.tmp 64) = (.agg (wpC ⟨k, m, p⟩).toArray) := hp 14 (by decide)
              refine stepK_plain (i := 15) rfl ?_
              clear hu
              clear hp ho
              have hbs := run_buildSlice1 (P := Tryz.prog) X 96 108 i0 z0 66 (wpC ⟨k, m, p⟩) Tryz.underlying96 hi hz hs2 (wpC_len ⟨k, m, p⟩ Hpl.out) (by omega) (by omega)
              refine StepOk.of_run (v := .slice (some ⟨X.heap.size, 0, none⟩) 1 1) (w' := X.alloc (.cells (wpC ⟨k, m, p⟩).toArray 108)) ?_ ⟨⟨⟨wpC_len ⟨k, m, p⟩ Hpl.out, .inr ⟨X.heap.size, 1, _, rfl, Nat.zero_le _, heap_alloc_new X _, Nat.le_refl _, by simp [maxLen], by simp [wpC_len ⟨k, m, p⟩ Hpl.out], by rw [List.toList_toArray]; exact List.take_of_length_le (by rw [wpC_len ⟨k, m, p⟩ Hpl.out]; omega)⟩⟩, _, rfl⟩, Grows.alloc' _ _⟩
              simp only [execOp, List.map_toArray, List.map_cons, List.map_nil, k64, hbs, Sem.run_bind, Result.andThen_ok, Sem.run_pure]
            · refine step_introK rfl rfl fun ρ X hc hf hgl hX hp ho hu => ?_
              change StepOk _ ⟨_, .call { callee := .builtin .append, args := #[.tmp 54, .tmp 65], argTypes := #[96, 96] }, _, _, _, _⟩ _ _ _
              have k54 : ρ (.tmp 54) = ?ve4 := hp 4 (by decide)
              have k65 := hp 15 (by decide)
              clear hu
              clear hp ho
              refine stepK_made rfl ?_
              obtain ⟨ho18, g18, e18⟩ := k65
              rw [e18] at ho18
              have hoX := hX.spared (nw, xs) (by simp) _ Hown.out
              obtain ⟨v', W', hr, ho', hgb', hat, hsp⟩ := run_append_x (P := Tryz.prog) X 96 96 108 i0 z0 66 80 Tryz.underlying96 hi hz hs2 hb2 hzs (by omega) _ nw xs hoX ⟨g18, 0, none⟩ 1 1 (wpC ⟨k, m, p⟩) (wpC_len ⟨k, m, p⟩ Hpl.out) (ho18.cells (g := g18) rfl) (wpC_one _) (by have := HnW.out; unfold maxLen; omega) (by have := HnW.out; omega) [(nw, xs), (1, wpC ⟨k, m, p⟩), (nw + 1, xs ++ wpC ⟨k, m, p⟩)] HLL.out
              refine StepOk.of_run (v := v') (w' := W') ?_ ⟨⟨ho', ?_⟩, ⟨But.grown hgb' (fun j hj => hj), hsp⟩, fun s hs => by simp [noState] at hs⟩
              · simp only [execOp, resolve, invoke, builtin, Sem.run_bind, Sem.run_pure, Result.andThen_ok, List.map_toArray, List.map_cons, List.map_nil, k54, e18, hr]
              · rcases hat with h | h
                · exact .inl h
                · right; intro j hj; rw [h] at hj; have := Option.some.inj hj; have := hX.but.size; have := Hws.out; omega
            · refine stepRK (o := ⟨_, .nilCheck (.tmp 50), _, _, _, _⟩) ?ve17 rfl rfl rfl (fun _ => rfl) fun ρ X hc hf hgl hX hp ho => ?_; have k50 : ρ (.tmp 50) = ?ve0 := hp 0 (by decide); clear hp ho hX; go_simp; (all_goals rfl)
            · refine stepRK (o := ⟨_, .fieldAddr 100 (.tmp 67) 4, _, _, _, _⟩) ?ve18 rfl rfl rfl (fun _ => rfl) fun ρ X hc hf hgl hX hp ho => ?_; have k67 : ρ (.tmp 67) = ?ve17 := hp 17 (by decide); clear hp ho hX; go_simp; (all_goals rfl)
            · exact last_intro rfl
           case grde => rfl
           case rste =>
            intro a0 X hb
            obtain ⟨x65, hx65⟩ : ∃ x, a0.tmps.getD 65 undef = x := ⟨_, rfl⟩
            have p65 := hb.done' 15 65 rfl rfl
            rw [hx65] at p65
            obtain ⟨x66, hx66⟩ : ∃ x, a0.tmps.getD 66 undef = x := ⟨_, rfl⟩
            have p66 := hb.done' 16 66 rfl rfl
            rw [hx66] at p66
            have hfr := hb.frame ((50, ?ve0) :: (51, ?ve1) :: (52, ?ve2) :: (53, ?ve3) :: (54, ?ve4) :: (55, ?ve5) :: (56, ?ve6) :: (57, ?ve7) :: (58, ?ve8) :: (59, ?ve9) :: (60, ?ve10) :: (61, ?ve11) :: (62, ?ve12) :: (63, (.agg (secC p).toArray)) :: (64, (.agg (wpC ⟨k, m, p⟩).toArray)) :: (65, x65) :: (66, x66) :: (67, ?ve17) :: (68, ?ve18) :: []) rfl ⟨hb.done' 0 50 rfl rfl, hb.done' 1 51 rfl rfl, hb.done' 2 52 rfl rfl, hb.done' 3 53 rfl rfl, hb.done' 4 54 rfl rfl, hb.done' 5 55 rfl rfl, hb.done' 6 56 rfl rfl, hb.done' 7 57 rfl rfl, hb.done' 8 58 rfl rfl, hb.done' 9 59 rfl rfl, hb.done' 10 60 rfl rfl, hb.done' 11 61 rfl rfl, hb.done' 12 62 rfl rfl, hb.done' 13 63 rfl rfl, hb.done' 14 64 rfl rfl, hx65, hx66, hb.done' 17 67 rfl rfl, hb.done' 18 68 rfl rfl, trivial⟩
            simp only [updL, ↓reduceIte, Nat.reduceEqDiff, Nat.reduceAdd, Nat.zero_add] at hfr
            have HX := Lib.hid hb.ext
            clear hb cXe
            subst hfr
            change StepOk _ { dst := _, op := Op.store 96 (Operand.tmp 68) (Operand.tmp 66), type := _, pos := _, after := _, guard := _ } _ _ _
            have hrX := HX.out.but.blockEq hnq HR2.out.row
            have cX := HX.out.but.cell (p := ⟨q, 4, none⟩) hnq c4
            have fX : X.frozen? ⟨q, 4, none⟩ = false := frozen_of_row X q 4 _ _ hrX
            obtain ⟨po', pa⟩ := (show X.ownsRow 0 108 66 x66 (nw + 1) (xs ++ wpC ⟨k, m, p⟩) ∧ (x66.ownBlock = Value.ownBlock (.slice aw nw cw) ∨ ∀ j, x66.ownBlock = some j → ws ≤ j) from p66)
            obtain ⟨a6, c6, rfl⟩ := own_form po'
            have hadd := HR2.out.pushW ⟨k, m, p⟩ (.slice a6 (nw + 1) c6) (by show But (fun k => x.vp.ownBlock = some k) _ _; rw [Hvw.out]; exact HX.out.but) (by show World.ownsRow _ _ _ _ _ (x.pend.length + 1) (x.pend.flatMap wpC ++ _); rw [HnW2.out, Hxs.out]; exact po') (by show _ = x.vp.ownBlock ∨ _; rw [Hvw.out, Hws.out]; exact pa) Hwf.out HnW3.out
            have HA := Lib.hid hadd
            clear hadd po' pa p66
            unfold StepOk
            simp [go_sem, execOp, cX, fX]
            go_wp2
            go_ret
            refine ⟨by rw [Hr.out]; rfl, _, HA.out.1, ?_, HT9.out.trans HA.out.2⟩
            rw [Hr.out]
            show ({ ((beginX x).setF { f with now := f.now.set m p }).s with pend := _ } : Ps) = _
            rw [setF_s, ← Hfn.out]
            rfl
        · have Hr : Hid (writeP x.s nm n p = (2, (beginX x).s)) := by show _ = _; rw [Hs.out, if_neg (by omega), if_pos h3]
          have h3I : ((pl : Int) == 64) = false := by simp; omega
          go_enter Tryz.func76, Tryz.ntmps76
          go_wp2_with fail
          refine HB.out.mono ?_
          rintro e w1 ⟨rfl, hP, hT⟩
          have HP := Lib.hid hP
          have HT := Lib.hid hT
          have hfo := hP.files.ok f Hfi.out
          have Hfo := Lib.hid hfo
          obtain ⟨a, c, a', c', e1, e2, d0, d1⟩ := fi_form hfo
          have hlk := hP.look Hfi.out
          rw [Hfn.out, Hb.out] at hlk
          have Hlk1 := Lib.hid hlk
          have HM1 := Lib.hid hP.files.map
          have Hok1 := Lib.hid hP.okF
          have c2 := hP.cell 2 (mv (beginX x).fm) rfl
          have cr := hP.cell 0 (nv (beginX x).room) rfl
          obtain ⟨fm, Hfm⟩ : ∃ y, Hid ((beginX x).fm = y) := ⟨_, rfl⟩
          rw [Hfm.out] at c2 HM1
          rw [HL.out] at e1 e2 d0 d1
          rw [Hb.out] at d0 d1
          unfold mv at c2
          unfold nv at cr
          have E1 := Lib.hid e1
          have E2 := Lib.hid e2
          clear hP hT hfo hlk e1 e2
          go_wp2_with (at_lookup; refine wpList_lookA rfl _ _ 95 109 false rfl HM1.out keyF Hok1.out Tryz.underlying95 _ (zeroFile _) k Hokp.out rfl rfl (.pointer (some ⟨b, 0, none⟩)) (by rw [Hlk1.out]; rfl) ?_)
          go_ret
          exact ⟨by rw [Hr.out]; rfl, beginX x, HP.out, by rw [Hr.out], HT.out⟩
 · have Hr : Hid (writeP x.s nm n p = beginP x.s) := guardP_no hf
   have hr : bwR x nm = .tuple #[.int .i64 0, .int .i64 (beginP x.s).1] := by unfold bwR; rw [if_neg hf]
   rw [hr] at HB
   obtain ⟨fc, Hfc⟩ : ∃ y, Hid ((beginP x.s).1 = y) := ⟨_, rfl⟩
   rw [Hfc.out] at HB hf
   have hne : (fc == 0) = false := by simpa using hf
   clear h hn hf hr hnI hp hout hsm
   go_enter Tryz.func76, Tryz.ntmps76
   go_wp2_with fail
   refine HB.out.mono ?_
   rintro e w1 ⟨rfl, hP, hT⟩
   have HP := Lib.hid hP
   have HT := Lib.hid hT
   clear hP hT
   go_wp2
   go_ret
   exact ⟨by rw [Hr.out, Hfc.out]; rfl, beginX x, HP.out, by rw [Hr.out, beginX_s], HT.out⟩
end Go.Proofs.YtoppcpiheaedlaaGreatDoor
end
section
/-
  The program's disk: the writes of one file are told; they are taken away from the pending ones.
-/
namespace Go.Proofs.YtoppcpiheaedlaaGreatDoor
open Go.RowKit Go.Maps Go.MapKept
set_option linter.unusedVariables false
set_option linter.unusedSimpArgs false
attribute [local go_sem] sv nv mv pv
set_option maxRecDepth 100000 in
theorem pDel (c : Wr) (k cv : Nat) (w : World) (hc : w.cell? ⟨cv, 0, none⟩ = some (.int .i64 (k : Int))) :
 Calls Tryz.prog 107 #[.agg (wpC c).toArray, .pointer (some ⟨cv, 0, none⟩)] w fun e w' => e = .returned (.bool (c.id == k)) ∧ Grows w w' := by
 have h0 : (w.alloc (.cells (wpC c).toArray 108)).cell? ⟨w.heap.size, 0, none⟩ = some (.int .i64 (c.id : Int)) := by
  rw [World.cell?_alloc_at _ _ _ _ rfl]; rfl
 have hcv := (Grows.alloc' w (.cells (wpC c).toArray 108)).cell' hc
 obtain ⟨C, HC⟩ : ∃ C, Hid ((wpC c).toArray = C) := ⟨_, rfl⟩
 rw [HC.out] at h0 hcv ⊢
 have He : Hid (((c.id : Int) == (k : Int)) = (c.id == k)) := by
  show _ = _
  by_cases h : c.id = k
  · simp [h]
  · have : ¬ (c.id : Int) = (k : Int) := by omega
    rw [beq_eq_false_iff_ne.2 h, beq_eq_false_iff_ne.2 this]
 have HG := Lib.hid (Grows.alloc' w (.cells C 108))
 clear hc
 go_enter Tryz.func107, Tryz.ntmps107
 go_wp2_with (first | (refine wpList_boxT rfl 108 _ rfl C rfl ?_) | go_in)
 go_ret
 exact ⟨by rw [← He.out]; rfl, HG.out⟩
theorem wpC_get {l : List Wr} (h : ∀ w ∈ l, w.p.length = 64) (i : Nat) (hi : i < l.length) (j : Nat) (hj : j < 66) : (l.flatMap wpC)[i * 66 + j]? = (wpC (l[i]))[j]? := by
 induction l generalizing i with
 | nil => simp at hi
 | cons a l ih =>
  have ha : (wpC a).length = 66 := wpC_len a (h a (by simp))
  cases i with
  | zero =>
   rw [List.flatMap_cons, Nat.zero_mul, Nat.zero_add, List.getElem?_append_left (by omega)]
   rfl
  | succ i =>
   rw [List.flatMap_cons, show (i + 1) * 66 + j = 66 + (i * 66 + j) by omega, List.getElem?_append_right (by omega), ha, show 66 + (i * 66 + j) - 66 = i * 66 + j by omega, ih (fun w hw => h w (by simp [hw])) i (by simpa using hi)]
   rfl
theorem sizeWr : (Tryz.prog.info? 108).map (·.size) = some 66 := by kernel_rfl
def firstIdx (l : List Wr) (k : Nat) : Nat := l.findIdx fun w => w.id == k
set_option maxRecDepth 100000 in
set_option maxHeartbeats 1000000 in
theorem pIndexFunc (v : Value) (l : List Wr) (k cv : Nat) (w : World) (hv : w.ownsRow 0 108 66 v l.length (l.flatMap wpC)) (h64 : ∀ c ∈ l, c.p.length = 64) (hl : l.length ≤ 1000000) (hc : w.cell? ⟨cv, 0, none⟩ = some (.int .i64 (k : Int))) :
 Calls Tryz.prog 117 #[v, .func (.func 107) #[] #[.pointer (some ⟨cv, 0, none⟩)]] w fun e w' => e = .returned (.int .i64 (if firstIdx l k < l.length then (firstIdx l k : Int) else -1)) ∧ Grows w w' := by
 obtain ⟨a, cap, rfl⟩ := own_form hv
 have Hv := Lib.hid hv
 have H64 := Lib.hid h64
 have Hc := Lib.hid hc
 have hlI : (l.length : Int) ≤ 1000000 := by omega
 obtain ⟨rv, Hrv⟩ : ∃ r : Int, Hid ((if firstIdx l k < l.length then (firstIdx l k : Int) else -1) = r) := ⟨_, rfl⟩
 rw [Hrv.out]
 clear hv h64 hl hc
 go_enter Tryz.func117, Tryz.ntmps117
 go_wp2
 go_loopw [5, 8] (fun _ t8 wr => ∃ i : Nat, i ≤ l.length ∧ t8 = .int .i64 i ∧ Hid (i ≤ firstIdx l k) ∧ Grows w wr)
  (fun _ t8 _ => l.length - (intOf t8).toNat)
 case atStart => exact ⟨0, by omega, rfl, Nat.zero_le _, Below.refl _ _⟩
 case round =>
  obtain ⟨i, hin, rfl, Hb, hG⟩ := hrel
  have HG := Lib.hid hG
  clear hG
  by_cases hlt : i < l.length
  · have hltI : (i : Int) < (l.length : Int) := by omega
    have hbi : ¬ ((l.length : Int) ≤ (i : Int)) := by omega
    obtain ⟨g, cap', e1⟩ := own_some Hv.out (by omega)
    simp only [Value.slice.injEq] at e1
    obtain ⟨rfl, -, rfl⟩ := e1
    obtain ⟨c, hcc⟩ : ∃ c, l[i] = c := ⟨_, rfl⟩
    have Hc64 : Hid (c.p.length = 64) := by rw [← hcc]; exact H64.out _ (List.getElem_mem hlt)
    have HcX : Hid (wr.rangeAt g (i * 66) (wpC c)) := fun j u hu => by
     have hj : j < 66 := by have := (List.getElem?_eq_some_iff.1 hu).1; rwa [wpC_len c Hc64.out] at this
     refine HG.out.cell' (own_cell Hv.out (i * 66 + j) _ ?_)
     rw [wpC_get H64.out i hlt j hj, hcc]
     exact hu
    have HD := Lib.hid (pDel c k cv wr (HG.out.cell' Hc.out))
    obtain ⟨b, Hb'⟩ : ∃ b, Hid ((c.id == k) = b) := ⟨_, rfl⟩
    rw [Hb'.out] at HD
    have Hhit : Hid (b = true → firstIdx l k = i) := fun hb => by
     have hb' : (l[i].id == k) = true := by rw [hcc, Hb'.out, hb]
     have := Hb.out
     unfold firstIdx at this ⊢
     rcases Nat.lt_or_ge i (l.findIdx fun w => w.id == k) with h' | h'
     · have h2 := List.not_of_lt_findIdx h'
       rw [h2] at hb'
       cases hb'
     · omega
    have Hmiss : Hid (b = false → i + 1 ≤ firstIdx l k) := fun hb => by
     have := Hb.out
     unfold firstIdx at this ⊢
     rcases Nat.lt_or_ge i (l.findIdx fun w => w.id == k) with h' | h'
     · exact h'
     · have he : (l.findIdx fun w => w.id == k) = i := by omega
       have h2 := List.findIdx_getElem (p := fun w : Wr => w.id == k) (xs := l) (w := by rw [he]; exact hlt)
       simp only [he] at h2
       rw [hcc, Hb'.out, hb] at h2
       cases h2
    have Hlt := Lib.hid hlt
    clear hcc hlt hin Hb
    go_wp2_with (first | (refine wpList_load_mid rfl 108 _ rfl g (i * 66) rfl (wpC c) _ HcX.out Tryz.underlying108 rfl (by rw [sizeWr, wpC_len c Hc64.out]) ?_) | fail)
    refine HD.out.mono ?_
    rintro e w2 ⟨rfl, hG2⟩
    have HG2 := Lib.hid (Grows.trans' HG.out hG2)
    clear hG2
    cases b with
    | true =>
     have Hi := Lib.hid (Hhit.out rfl)
     go_wp2
     go_ret
     have er : rv = (i : Int) := by rw [← Hrv.out, if_pos (by rw [Hi.out]; exact Hlt.out), Hi.out]
     exact ⟨by rw [er]; rfl, HG2.out⟩
    | false =>
     have Hi := Lib.hid (Hmiss.out rfl)
     go_wp2
     go_roundw
     case rel => exact ⟨i + 1, Hlt.out, by simp, Hi.out, HG2.out⟩
     case measure => have := Hlt.out; simp [intOf]; omega
  · have hltI : ¬ (i : Int) < (l.length : Int) := by omega
    have Hno : Hid (¬ firstIdx l k < l.length) := by show ¬ _; have := Hb.out; omega
    go_wp2
    go_ret
    have er : rv = -1 := by rw [← Hrv.out, if_neg Hno.out]
    exact ⟨by rw [er]; rfl, HG.out⟩
theorem run_clearK {P : Program} (w : World) (t e ty : TypeId) (z : Value) (k n : Nat) (ht : P.underlying t = some (.slice e)) (hv : ∀ w, (zeroValue e).run P w = .ok z w) (hz : z.cells.size = k) (h1 : ∀ u ∈ (Builtin.zeroCells z.cells n).toList, u.oneCell' = true) (g o c : Nat) (hn : 0 < n)
 (cur : Array Value) (T : TypeId) (hg : w.heap[g]? = some (.cells cur T (0, 0))) (hfit : o + n * k ≤ cur.size) :
 (Builtin.clear_ #[t] ty #[.slice (some ⟨g, o, none⟩) n c]).run P w = .ok (.tuple #[]) (w.setRow g (ovr cur o (Builtin.zeroCells z.cells n).toList)) := by
 have hl : (Builtin.zeroCells z.cells n).toList.length = n * k := by rw [Array.length_toList, size_zeroCells, hz]
 have hst := run_storeCells_at P g o T (Builtin.zeroCells z.cells n).toList 0 cur w hg (by rw [hl]; omega) h1
 simp only [Nat.add_zero] at hst
 obtain ⟨m, rfl⟩ : ∃ m, n = m + 1 := ⟨n - 1, by omega⟩
 simp [Builtin.clear_, run_underlying ht, hv, hst, ovr, Result.andThen]
def flt (k : Nat) (l : List Wr) : List Wr := l.filter fun w => !(w.id == k)
theorem flt_le (k : Nat) (l : List Wr) : (flt k l).length ≤ l.length := List.length_filter_le _ _
structure DelRow (W : World) (g cap : Nat) (l : List Wr) (k j i : Nat) : Prop where
 row : ∃ cur, W.heap[g]? = some (.cells cur 108 (0, 0)) ∧ cur.size = cap * 66 ∧ cur.toList.take (i * 66) = (flt k (l.take j)).flatMap wpC ∧ (cur.toList.drop (j * 66)).take ((l.length - j) * 66) = (l.drop j).flatMap wpC
 len : i = (flt k (l.take j)).length
theorem DelRow.le {W : World} {g cap : Nat} {l : List Wr} {k j i : Nat} (h : DelRow W g cap l k j i) : i ≤ j := by
 rw [h.len]
 exact Nat.le_trans (flt_le _ _) (List.length_take_le _ _)
theorem DelRow.grows {W W' : World} {g cap : Nat} {l : List Wr} {k j i : Nat} (h : DelRow W g cap l k j i) (hg : Grows W W') : DelRow W' g cap l k j i := by
 obtain ⟨⟨cur, hr, rest⟩, hl⟩ := h
 exact ⟨⟨cur, hg.heap' hr, rest⟩, hl⟩
theorem DelRow.row_eq {W W' : World} {g cap : Nat} {l : List Wr} {k j i : Nat} (h : DelRow W g cap l k j i) (he : W'.heap[g]? = W.heap[g]?) : DelRow W' g cap l k j i := by
 obtain ⟨⟨cur, hr, rest⟩, hl⟩ := h
 exact ⟨⟨cur, he.trans hr, rest⟩, hl⟩
theorem DelRow.start {W : World} {g cap n : Nat} {l : List Wr} {k : Nat} (h : W.ownsRow 0 108 66 (.slice (some ⟨g, 0, none⟩) n cap) n (l.flatMap wpC)) (hn : n = l.length) (h64 : ∀ c ∈ l, c.p.length = 64) (hi : firstIdx l k < l.length) : DelRow W g cap l k (firstIdx l k + 1) (firstIdx l k) := by
 subst hn
 have hflt : flt k (l.take (firstIdx l k + 1)) = l.take (firstIdx l k) := by
  unfold flt
  rw [List.take_succ_eq_append_getElem hi, List.filter_append]
  have h1 : (l.take (firstIdx l k)).filter (fun w => !(w.id == k)) = l.take (firstIdx l k) := by
   refine List.filter_eq_self.2 fun w hw => ?_
   obtain ⟨j, hj, rfl⟩ := List.mem_iff_getElem.1 hw
   have hj' : j < firstIdx l k := by simp at hj; omega
   have := List.not_of_lt_findIdx (p := fun w : Wr => w.id == k) (xs := l) (i := j) hj'
   simpa using this
  have h2 : (l[firstIdx l k].id == k) = true := List.findIdx_getElem (p := fun w : Wr => w.id == k) (xs := l) (w := hi)
  rw [h1, List.filter_cons_of_neg (by simp [h2])]
  simp
 rcases h.2 with ⟨h0, _⟩ | ⟨g', cap', cur, h0, hb, hg, hnc, hcm, hcs, ht⟩
 · cases h0
 · simp only [Value.slice.injEq, Option.some.injEq, Addr.mk.injEq] at h0
   obtain ⟨⟨rfl, -⟩, -, rfl⟩ := h0
   have hwl := wpC_flat h64
   refine ⟨⟨cur, hg, hcs, ?_, ?_⟩, by rw [hflt, List.length_take]; omega⟩
   · rw [hflt]
     have e1 : l.flatMap wpC = (l.take (firstIdx l k)).flatMap wpC ++ (l.drop (firstIdx l k)).flatMap wpC := by rw [← List.flatMap_append, List.take_append_drop]
     have e2 : ((l.take (firstIdx l k)).flatMap wpC).length = firstIdx l k * 66 := by
      rw [wpC_flat fun c hc => h64 c (List.mem_of_mem_take hc), List.length_take]
      congr 1
      omega
     have e3 : cur.toList.take (firstIdx l k * 66) = (cur.toList.take (l.length * 66)).take (firstIdx l k * 66) := by rw [List.take_take, Nat.min_eq_left (by omega)]
     rw [e3, ht, e1, List.take_left' e2]
   · have e1 : l.flatMap wpC = (l.take (firstIdx l k + 1)).flatMap wpC ++ (l.drop (firstIdx l k + 1)).flatMap wpC := by rw [← List.flatMap_append, List.take_append_drop]
     have e2 : ((l.take (firstIdx l k + 1)).flatMap wpC).length = (firstIdx l k + 1) * 66 := by
      rw [wpC_flat fun c hc => h64 c (List.mem_of_mem_take hc), List.length_take]
      congr 1
      omega
     have e3 : (cur.toList.drop ((firstIdx l k + 1) * 66)).take ((l.length - (firstIdx l k + 1)) * 66) = (cur.toList.take (l.length * 66)).drop ((firstIdx l k + 1) * 66) := by
      rw [List.drop_take]
      congr 1
      omega
     rw [e3, ht, e1, List.drop_left' e2]
theorem DelRow.at {W : World} {g cap : Nat} {l : List Wr} {k j i : Nat} (h : DelRow W g cap l k j i) (h64 : ∀ c ∈ l, c.p.length = 64) (hj : j < l.length) : W.rangeAt g (j * 66) (wpC (l[j])) := by
 obtain ⟨⟨cur, hr, hs, h1, h2⟩, _⟩ := h
 intro t u hu
 have ht : t < 66 := by have := (List.getElem?_eq_some_iff.1 hu).1; rwa [wpC_len _ (h64 _ (List.getElem_mem hj))] at this
 rw [cell_of_row W g _ _ _ _ hr]
 have e1 : ((cur.toList.drop (j * 66)).take ((l.length - j) * 66))[t]? = cur.toList[j * 66 + t]? := by
  rw [List.getElem?_take_of_lt (by have : 1 ≤ l.length - j := by omega
                                   have := Nat.mul_le_mul_right 66 this
                                   omega), List.getElem?_drop]
 rw [← Array.getElem?_toList, ← e1, h2, List.drop_eq_getElem_cons hj, List.flatMap_cons, List.getElem?_append_left (by rw [wpC_len _ (h64 _ (List.getElem_mem hj))]; exact ht)]
 exact hu
theorem DelRow.skip {W : World} {g cap : Nat} {l : List Wr} {k j i : Nat} (h : DelRow W g cap l k j i) (h64 : ∀ c ∈ l, c.p.length = 64) (hj : j < l.length) (hc : (l[j].id == k) = true) : DelRow W g cap l k (j + 1) i := by
 obtain ⟨⟨cur, hr, hs, h1, h2⟩, hl⟩ := h
 have hf : flt k (l.take (j + 1)) = flt k (l.take j) := by
  unfold flt
  rw [List.take_succ_eq_append_getElem hj, List.filter_append, List.filter_cons_of_neg (by simp [hc])]
  simp
 refine ⟨⟨cur, hr, hs, by rw [hf]; exact h1, ?_⟩, by rw [hf]; exact hl⟩
 have ha := wpC_len _ (h64 _ (List.getElem_mem hj))
 rw [List.drop_eq_getElem_cons hj, List.flatMap_cons] at h2
 have h3 := congrArg (List.drop 66) h2
 rw [List.drop_take, List.drop_drop, List.drop_left' ha] at h3
 rw [show (j + 1) * 66 = j * 66 + 66 by omega, show (l.length - (j + 1)) * 66 = (l.length - j) * 66 - 66 by omega]
 exact h3
theorem DelRow.move {W : World} {g cap : Nat} {l : List Wr} {k j i : Nat} (h : DelRow W g cap l k j i) (h64 : ∀ c ∈ l, c.p.length = 64) (hn : l.length ≤ cap) (hj : j < l.length) (hc : (l[j].id == k) = false) :
 ∃ cur, W.heap[g]? = some (.cells cur 108 (0, 0)) ∧ i * 66 + (wpC (l[j])).length ≤ cur.size ∧ DelRow (W.setRow g (ovr cur (i * 66) (wpC (l[j])))) g cap l k (j + 1) (i + 1) := by
 have hij := h.le
 obtain ⟨⟨cur, hr, hs, h1, h2⟩, hl⟩ := h
 have ha := wpC_len _ (h64 _ (List.getElem_mem hj))
 have hcj : (j + 1) * 66 ≤ cap * 66 := Nat.mul_le_mul_right _ (by omega)
 have hfit : i * 66 + (wpC (l[j])).length ≤ cur.size := by
  rw [ha, hs]
  have := Nat.mul_le_mul_right 66 hij
  omega
 have hf : flt k (l.take (j + 1)) = flt k (l.take j) ++ [l[j]] := by
  unfold flt
  rw [List.take_succ_eq_append_getElem hj, List.filter_append, List.filter_cons_of_pos (by simp [hc])]
  simp
 refine ⟨cur, hr, hfit, ⟨⟨_, setRow_heap W g cur _ _ _ hr, by rw [ovr_size hfit]; exact hs, ?_, ?_⟩, by rw [hf, List.length_append, ← hl]; rfl⟩⟩
 · rw [hf, List.flatMap_append, ← h1]
   simp only [List.flatMap_cons, List.flatMap_nil, List.append_nil]
   unfold ovr
   rw [List.toList_toArray]
   have e : (cur.toList.take (i * 66) ++ wpC (l[j])).length = (i + 1) * 66 := by
    rw [List.length_append, ha, List.length_take, Array.length_toList]
    omega
   exact List.take_left' e
 · have h3 : ((ovr cur (i * 66) (wpC (l[j]))).toList.drop ((j + 1) * 66)) = cur.toList.drop ((j + 1) * 66) := by
    unfold ovr
    rw [List.toList_toArray]
    have e : (cur.toList.take (i * 66) ++ wpC (l[j])).length = i * 66 + 66 := by
     rw [List.length_append, ha, List.length_take, Array.length_toList]
     omega
    have hle := Nat.mul_le_mul_right 66 hij
    rw [List.drop_append, e, List.drop_eq_nil_of_le (by rw [e]; omega), List.nil_append, List.drop_drop, ha]
    congr 1
    omega
   rw [h3]
   rw [List.drop_eq_getElem_cons hj, List.flatMap_cons] at h2
   have h4 := congrArg (List.drop 66) h2
   rw [List.drop_take, List.drop_drop, List.drop_left' ha] at h4
   rw [show (j + 1) * 66 = j * 66 + 66 by omega, show (l.length - (j + 1)) * 66 = (l.length - j) * 66 - 66 by omega]
   exact h4
theorem DelRow.done {W : World} {g cap : Nat} {l : List Wr} {k i : Nat} (h : DelRow W g cap l k l.length i) (h64 : ∀ c ∈ l, c.p.length = 64) (hn : l.length ≤ cap) (hm : cap ≤ maxLen) (Z : List Value) (hZ : i * 66 + Z.length ≤ cap * 66) :
 ∃ cur, W.heap[g]? = some (.cells cur 108 (0, 0)) ∧ cur.size = cap * 66 ∧ (W.setRow g (ovr cur (i * 66) Z)).ownsRow 0 108 66 (.slice (some ⟨g, 0, none⟩) i cap) i ((flt k l).flatMap wpC) := by
 have hij := h.le
 obtain ⟨⟨cur, hr, hs, h1, h2⟩, hl⟩ := h
 rw [List.take_length] at h1 hl
 have hfit : i * 66 + Z.length ≤ cur.size := by rw [hs]; exact hZ
 refine ⟨cur, hr, hs, ?_, .inr ⟨g, cap, _, rfl, Nat.zero_le _, setRow_heap W g cur _ _ _ hr, by omega, hm, by rw [ovr_size hfit]; exact hs, ?_⟩⟩
 · have hfl : ((flt k l).flatMap wpC).length = (flt k l).length * 66 := wpC_flat fun c hc => h64 c (List.mem_filter.1 hc).1
   rw [hfl, hl]
 · rw [← h1]
   unfold ovr
   rw [List.toList_toArray, List.append_assoc, List.take_append_of_le_length (by rw [List.length_take, Array.length_toList]; omega), List.take_take, Nat.min_self]
theorem zeroWr : ∃ z : Value, z.cells.size = 66 ∧ (∀ u ∈ z.cells, u.oneCell' = true) ∧ ∀ w, (zeroValue 108).run Tryz.prog w = .ok z w := by
 obtain ⟨i, z, hi, hz, _, _, hzs⟩ := infoWr_parts
 have hone : (match (Tryz.prog.info? 108).bind (·.zero) with | some z => z.cells.all (·.oneCell') | none => false) = true := by kernel_rfl
 rw [hi] at hone
 simp only [Option.bind_some, hz] at hone
 exact ⟨z, hzs, fun u hu => (Array.all_eq_true_iff_forall_mem.1 hone) u hu, fun w => by simp [zeroValue, typeInfo, hi, hz]⟩
theorem zero_one {z : Value} {k : Nat} (hk : z.cells.size = k) (h0 : 0 < k) (h1 : ∀ u ∈ z.cells, u.oneCell' = true) (n : Nat) : ∀ u ∈ (Builtin.zeroCells z.cells n).toList, u.oneCell' = true := by
 intro u hu
 unfold Builtin.zeroCells at hu
 simp only [Array.toList_map, List.mem_map] at hu
 obtain ⟨j, _, rfl⟩ := hu
 have hj : j % z.cells.size < z.cells.size := Nat.mod_lt _ (by omega)
 rw [getElem!_pos z.cells (j % z.cells.size) hj]
 exact h1 _ (Array.getElem_mem hj)
set_option maxRecDepth 100000 in
set_option maxHeartbeats 2000000 in
theorem pDeleteFunc (v : Value) (l : List Wr) (k cv : Nat) (w : World) (hv : w.ownsRow 0 108 66 v l.length (l.flatMap wpC)) (h64 : ∀ c ∈ l, c.p.length = 64) (hl : l.length ≤ 1000000) (hc : w.cell? ⟨cv, 0, none⟩ = some (.int .i64 (k : Int))) (hcv : v.ownBlock ≠ some cv) :
 Calls Tryz.prog 106 #[v, .func (.func 107) #[] #[.pointer (some ⟨cv, 0, none⟩)]] w fun e w' => ∃ v', e = .returned v' ∧ w'.ownsRow 0 108 66 v' (flt k l).length ((flt k l).flatMap wpC) ∧ But (fun j => v.ownBlock = some j) w w' ∧ v'.ownBlock = v.ownBlock := by
 have HI := Lib.hid (pIndexFunc v l k cv w hv h64 hl hc)
 have Hv := Lib.hid hv
 have H64 := Lib.hid h64
 have Hc := Lib.hid hc
 have Hcv := Lib.hid hcv
 have hlI : (l.length : Int) ≤ 1000000 := by omega
 by_cases hi : firstIdx l k < l.length
 · rw [if_pos hi] at HI
   obtain ⟨g, cap, rfl⟩ := own_some hv (by omega)
   have Hcap : Hid (l.length ≤ cap ∧ cap ≤ maxLen) := by
    rcases hv.2 with ⟨h0, _⟩ | ⟨g', cap', cur, h0, hb, hg, hnc, hcm, hcs, ht⟩
    · cases h0
    · simp only [Value.slice.injEq] at h0
      rw [h0.2.2]
      exact ⟨hnc, hcm⟩
   obtain ⟨i0, Hi0⟩ : ∃ i, Hid (firstIdx l k = i) := ⟨_, rfl⟩
   have Hst := Lib.hid (DelRow.start hv rfl h64 hi)
   rw [Hi0.out] at HI Hst hi
   have Hlt := Lib.hid hi
   have h1 : ¬ ((i0 : Int) = -1) := by omega
   have h2 : ((i0 : Int) == -1) = false := by simp [h1]
   clear hv h64 hl hc hcv
   obtain ⟨ln, Hln⟩ : ∃ n, Hid (l.length = n) := ⟨_, rfl⟩
   rw [Hln.out] at HI hlI hi ⊢
   have hiI : (i0 : Int) < (ln : Int) := by omega
   clear hi
   go_enter Tryz.func106, Tryz.ntmps106
   go_wp2_with fail
   refine HI.out.mono ?_
   rintro e w1 ⟨rfl, hG⟩
   have HG := Lib.hid hG
   have HS1 := Lib.hid (Hst.out.grows hG)
   clear hG
   go_wp2
   go_loopw [5, 6, 7] (fun t5 t6 _ wr => ∃ i j : Nat, i0 + 1 ≤ j ∧ j ≤ ln ∧ t5 = .int .i64 i ∧ t6 = .int .i64 j ∧ DelRow wr g cap l k j i ∧ But (fun j => j = g) w wr)
    (fun _ t6 _ _ => ln - (intOf t6).toNat)
   case atStart => exact ⟨i0, i0 + 1, by omega, by omega, rfl, by simp, HS1.out, But.ofGrows HG.out⟩
   case round =>
    obtain ⟨i, j, hj1, hjn, rfl, rfl, hD, hB⟩ := hrel
    have HD := Lib.hid hD
    have HB := Lib.hid hB
    clear hD hB
    have Hij := Lib.hid HD.out.le
    by_cases hlt : j < ln
    · have hltI : (j : Int) < (ln : Int) := by omega
      have hbi : ¬ ((ln : Int) ≤ (j : Int)) := by omega
      have hiln : (i : Int) < (ln : Int) := by have := Hij.out; omega
      have hjl : j < l.length := by rw [Hln.out]; exact hlt
      obtain ⟨c, hcc⟩ : ∃ c, l[j] = c := ⟨_, rfl⟩
      have Hc64 : Hid (c.p.length = 64) := by rw [← hcc]; exact H64.out _ (List.getElem_mem hjl)
      have hat := HD.out.at H64.out hjl
      rw [hcc] at hat
      have Hat := Lib.hid hat
      have hcvr : wr.cell? ⟨cv, 0, none⟩ = some (.int .i64 (k : Int)) := HB.out.cell (p := ⟨cv, 0, none⟩) (fun e => Hcv.out (by show some g = some cv; rw [show cv = g from e])) Hc.out
      obtain ⟨b, Hb'⟩ : ∃ b, Hid ((c.id == k) = b) := ⟨_, rfl⟩
      have Hskip : Hid (b = true → DelRow wr g cap l k (j + 1) i) := fun hb => HD.out.skip H64.out hjl (by rw [hcc, Hb'.out, hb])
      have Hmove : Hid (b = false → ∃ cur, wr.heap[g]? = some (.cells cur 108 (0, 0)) ∧ i * 66 + (wpC c).length ≤ cur.size ∧ DelRow (wr.setRow g (ovr cur (i * 66) (wpC c))) g cap l k (j + 1) (i + 1)) := fun hb => by
       have := HD.out.move H64.out Hcap.out.1 hjl (by rw [hcc, Hb'.out, hb])
       rw [hcc] at this
       exact this
      have Hgr : Hid (∃ cur, wr.heap[g]? = some (.cells cur 108 (0, 0))) := by obtain ⟨⟨cur, hr, _⟩, _⟩ := HD.out; exact ⟨cur, hr⟩
      obtain ⟨iw, zw, hiw, hzw, hsw, -, hzsw⟩ := infoWr_parts
      obtain ⟨zc, Hzc⟩ : ∃ y, Hid (zw.cells = y) := ⟨_, rfl⟩
      have Hzi : Hid (((Tryz.prog.info? 108).bind (fun i => i.zero)).map (fun z => z.cells) = some zc) := by show _ = _; rw [hiw]; simp [hzw, Hzc.out]
      have Hzn : Hid (zc.size = 66) := by show _ = _; rw [← Hzc.out]; exact hzsw
      obtain ⟨C, HC⟩ : ∃ C, Hid ((wpC c).toArray = C) := ⟨_, rfl⟩
      have HCn : Hid (C.size = 66) := by show _ = _; rw [← HC.out, List.size_toArray, wpC_len c Hc64.out]
      have Hlt' := Lib.hid hlt
      have Hj1 := Lib.hid hj1
      obtain ⟨nb, Hnb⟩ : ∃ n, Hid (wr.heap.size = n) := ⟨_, rfl⟩
      have hnew := heap_alloc_new wr (.cells zc 108)
      rw [Hnb.out] at hnew
      have Hnew := Lib.hid hnew
      have hG2 : Grows wr ((wr.alloc (.cells zc 108)).setRow nb C) := by
       refine ⟨rfl, rfl, rfl, by simp, fun k hk => ?_⟩
       rw [setRow_other _ nb k C (by have := Hnb.out; omega)]
       exact heap_alloc_old wr _ hk
      have Hrow2 : Hid (((wr.alloc (.cells zc 108)).setRow nb C).heap[nb]? = some (.cells C 108 (0, 0))) := setRow_heap _ nb zc C _ _ hnew
      have HG2 := Lib.hid hG2
      have HDl := pDel c k cv ((wr.alloc (.cells zc 108)).setRow nb C) (hG2.cell' hcvr)
      rw [HC.out, Hb'.out] at HDl
      have HDl := Lib.hid HDl
      clear hcc hlt hjl hat hcvr hiw hzw hsw hzsw hj1 hjn hnew hG2
      go_wp2_with (first
       | (refine wpList_load_mid rfl 108 _ rfl g (j * 66) rfl (wpC c) _ Hat.out Tryz.underlying108 rfl (by rw [sizeWr, wpC_len c Hc64.out]) ?_; rw [HC.out])
       | (refine wpList_allocT rfl 108 rfl zc Hzi.out ?_; rw [Hnb.out])
       | (refine wpList_storeT rfl 108 _ _ rfl nb 108 zc C rfl rfl Hnew.out (by rw [sizeWr, HCn.out]) (by rw [Hzn.out, HCn.out]) (by rw [← HC.out]; exact all_oneCell_toArray (wpC_one c)) ?_)
       | (refine wpList_load_row rfl 108 _ rfl nb rfl 108 C (0, 0) _ Hrow2.out Tryz.underlying108 rfl (by rw [sizeWr, HCn.out]) ?_)
       | fail)
      refine HDl.out.mono ?_
      rintro e w5 ⟨rfl, hG5⟩
      have HG5 := Lib.hid (Grows.trans' HG2.out hG5)
      have HR5 := Lib.hid (hG5.heap' Hrow2.out)
      clear hG5
      cases b with
      | true =>
       have HS := Lib.hid ((Hskip.out rfl).grows HG5.out)
       go_wp2
       go_roundw
       case rel => exact ⟨i, j + 1, by have := Hj1.out; omega, Hlt'.out, rfl, by simp, HS.out, HB.out.trans' (But.ofGrows HG5.out)⟩
       case measure => have := Hlt'.out; simp [intOf]; omega
      | false =>
       obtain ⟨cur, hcur, hfit, hD6⟩ := Hmove.out rfl
       have Hcur := Lib.hid (HG5.out.heap' hcur)
       have Hfit := Lib.hid hfit
       have HD6 : Hid (DelRow (w5.setRow g (ovr cur (i * 66) (wpC c))) g cap l k (j + 1) (i + 1)) := hD6.row_eq (by rw [setRow_heap w5 g cur _ _ _ Hcur.out, setRow_heap wr g cur _ _ _ hcur])
       have HB6 : Hid (But (fun j => j = g) w (w5.setRow g (ovr cur (i * 66) (wpC c)))) := But.setRow (HB.out.trans' (But.ofGrows HG5.out)) _ _ rfl
       clear hcur hfit hD6
       go_wp2_with (first
        | (refine wpList_load_row rfl 108 _ rfl nb rfl 108 C (0, 0) _ HR5.out Tryz.underlying108 rfl (by rw [sizeWr, HCn.out]) ?_)
        | (refine wpList_storePart rfl 108 _ _ rfl g (i * 66) 108 cur (wpC c) C HC.out rfl rfl Hcur.out Hfit.out (by rw [sizeWr, wpC_len c Hc64.out]) (wpC_one c) ?_)
        | go_in)
       go_roundw
       case rel => exact ⟨i + 1, j + 1, by have := Hj1.out; omega, Hlt'.out, by simp, by simp, HD6.out, HB6.out⟩
       case measure => have := Hlt'.out; simp [intOf]; omega
    · have hltI : ¬ (j : Int) < (ln : Int) := by omega
      have hje : j = l.length := by rw [Hln.out]; omega
      have hD := HD.out
      rw [hje] at hD
      obtain ⟨zc, hzs, hz1, hzv⟩ := zeroWr
      have hin : i < ln := by
       rw [hD.len, List.take_length]
       have hm : ∃ x ∈ l, ¬ (!(x.id == k)) = true := by
        have hlt2 : firstIdx l k < l.length := by rw [Hi0.out]; exact Hlt.out
        have h2 : (l[firstIdx l k].id == k) = true := List.findIdx_getElem (p := fun w : Wr => w.id == k) (xs := l) (w := hlt2)
        exact ⟨l[firstIdx l k], List.getElem_mem hlt2, by simp [h2]⟩
       have := List.length_filter_lt_length_iff_exists.2 hm
       unfold flt
       omega
      obtain ⟨Z, HZ⟩ : ∃ Z, Hid ((Builtin.zeroCells zc.cells (ln - i)).toList = Z) := ⟨_, rfl⟩
      have hZl : Z.length = (ln - i) * 66 := by rw [← HZ.out, Array.length_toList, size_zeroCells, hzs]
      have hcapm := Nat.mul_le_mul_right 66 Hcap.out.1
      have hZfit : i * 66 + Z.length ≤ cap * 66 := by
       rw [hZl, ← Nat.add_mul]
       rw [Hln.out] at hcapm
       rw [show i + (ln - i) = ln by omega]
       exact hcapm
      obtain ⟨cur, hcur, hcs, hown⟩ := hD.done H64.out Hcap.out.1 Hcap.out.2 Z hZfit
      have hncap : ¬ (cap = i) := by have := Hcap.out.1; rw [Hln.out] at this; omega
      have hilI : (i : Int) ≤ (ln : Int) := by omega
      have hcapI : (i : Int) ≤ (cap : Int) := by have := Hcap.out.1; rw [Hln.out] at this; omega
      have Hcur := Lib.hid hcur
      have Hown := Lib.hid hown
      have Hzf : Hid (i * 66 + (ln - i) * 66 ≤ cur.size) := by show _ ≤ _; rw [hcs, ← hZl]; exact hZfit
      have HB6 : Hid (But (fun j => j = g) w (wr.setRow g (ovr cur (i * 66) Z))) := But.setRow HB.out _ _ rfl
      have Hin := Lib.hid hin
      have Hlen : Hid (i = (flt k l).length) := by have := hD.len; rw [List.take_length] at this; exact this
      clear hje hD hin hZl hcapm hZfit hcur hcs hown
      have hcl := run_clearK (P := Tryz.prog) wr 96 108 0 zc 66 (ln - i) Tryz.underlying96 hzv hzs (zero_one hzs (by omega) hz1 _) g (i * 66) (cap - i) (by have := Hin.out; omega) cur _ Hcur.out Hzf.out
      rw [HZ.out] at hcl
      have Hcl := Lib.hid hcl
      clear hcl
      go_wp2
      rw [Hcl.out]
      simp only [Result.andThen]
      rw [Oper.upon_value]
      go_wp2
      go_ret
      refine ⟨.slice (some ⟨g, 0, none⟩) i cap, rfl, by rw [← Hlen.out]; exact Hown.out, HB6.out.mono fun j hj => by rw [hj]; rfl, rfl⟩
 · rw [if_neg hi] at HI
   obtain ⟨a, cap, rfl⟩ := own_form hv
   have hall : flt k l = l := by
    unfold flt
    refine List.filter_eq_self.2 fun x hx => ?_
    have h0 : firstIdx l k = l.length := by
     unfold firstIdx at hi ⊢
     have := List.findIdx_le_length (p := fun w : Wr => w.id == k) (xs := l)
     omega
    obtain ⟨j, hj, rfl⟩ := List.mem_iff_getElem.1 hx
    have := List.not_of_lt_findIdx (p := fun w : Wr => w.id == k) (xs := l) (i := j) (by unfold firstIdx at h0; omega)
    simpa using this
   rw [hall]
   obtain ⟨ln, Hln⟩ : ∃ n, Hid (l.length = n) := ⟨_, rfl⟩
   rw [Hln.out] at HI Hv hlI ⊢
   clear hv h64 hl hc hcv hi hall
   go_enter Tryz.func106, Tryz.ntmps106
   go_wp2_with fail
   refine HI.out.mono ?_
   rintro e w1 ⟨rfl, hG⟩
   have HG := Lib.hid hG
   clear hG
   go_wp2
   go_ret
   exact ⟨_, rfl, own_grows Hv.out HG.out, But.ofGrows HG.out, rfl⟩
end Go.Proofs.YtoppcpiheaedlaaGreatDoor
end
