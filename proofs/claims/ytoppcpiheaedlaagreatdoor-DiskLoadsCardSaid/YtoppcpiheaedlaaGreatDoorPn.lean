/-
  The program's disk: a sector that is written.
-/
import Derived.Test.YtoppcpiheaedlaaGreatDoorPm
namespace Go.Proofs.YtoppcpiheaedlaaGreatDoor
open Go.RowKit Go.Maps Go.MapKept
set_option linter.unusedVariables false
set_option linter.unusedSimpArgs false
attribute [local go_sem] sv nv mv pv

theorem secC_len1 (p : Sec) : (secC p).length = p.length := by simp [secC]
theorem secC_one (p : Sec) : ∀ u ∈ secC p, u.oneCell' = true := by
  intro u hu
  obtain ⟨b, _, rfl⟩ := List.mem_map.1 hu
  rfl
theorem flat_set {l : List Sec} (h : ∀ p ∈ l, p.length = 64) (n : Nat) (hn : n < l.length) (p : Sec) (hp : p.length = 64) : (l.flatMap secC).take (n * 64) ++ secC p ++ (l.flatMap secC).drop (n * 64 + (secC p).length) = (l.set n p).flatMap secC := by
  have hs : (secC p).length = 64 := by rw [secC_len1, hp]
  rw [hs]
  have key : ∀ (l : List Sec) (n : Nat), (∀ p ∈ l, p.length = 64) → n < l.length → (l.flatMap secC).take (n * 64) ++ secC p ++ (l.flatMap secC).drop (n * 64 + 64) = (l.set n p).flatMap secC := by
    intro l
    induction l with
    | nil => intro n _ hn; simp at hn
    | cons a l ih =>
      intro n h hn
      have ha : (secC a).length = 64 := by rw [secC_len1]; exact h a (by simp)
      cases n with
      | zero =>
        simp only [List.flatMap_cons, List.set_cons_zero, Nat.zero_mul, List.take_zero, List.nil_append, Nat.zero_add]
        congr 1
        exact List.drop_left' ha
      | succ n =>
        have := ih n (fun q hq => h q (by simp [hq])) (by simpa using hn)
        simp only [List.flatMap_cons, List.set_cons_succ]
        rw [← this, show (n + 1) * 64 = (secC a).length + n * 64 by omega, List.take_length_add_append, show (secC a).length + n * 64 + 64 = (secC a).length + (n * 64 + 64) by omega, List.drop_length_add_append]
        simp
  exact key l n h hn
/-- A sector is another one, as it is now. -/
theorem FiOk.put {W : World} {f : Fi} (h : FiOk W f) {g L c : Nat} (hv : f.vn = .slice (some ⟨g, 0, none⟩) L c) (n : Nat) (hn : n < f.now.length) (p : Sec) (hp : p.length = 64) :
    ∃ cur, W.heap[g]? = some (.cells cur 106 (0, 0)) ∧ n * 64 + (secC p).length ≤ cur.size ∧ FiOk (W.setRow g (ovr cur (n * 64) (secC p))) { f with now := f.now.set n p } ∧ But (fun k => k = g) W (W.setRow g (ovr cur (n * 64) (secC p))) := by
  have ho := h.now
  rw [hv] at ho
  have hL : L = f.now.length := by
    rcases ho.2 with ⟨e, _⟩ | ⟨_, _, _, e, _⟩
    · cases e
    · simp only [Value.slice.injEq] at e; exact e.2.1
  subst hL
  obtain ⟨cur, hg, hfit, ho'⟩ := own_ovr ho (ys := secC p) (n * 64) (by rw [secC_len1, hp]; omega)
  have hB : But (fun k => k = g) W (W.setRow g (ovr cur (n * 64) (secC p))) := But.setRow (But.refl' _ _) _ _ rfl
  refine ⟨cur, hg, hfit, ⟨?_, ?_, ?_, ?_, ?_, h.safe64, ?_, h.apart⟩, hB⟩
  · refine hB.blockEq (fun e => ?_) h.row
    have := h.row
    rw [e, hg] at this
    simp at this
  · rw [flat_set h.now64 n hn p hp] at ho'
    show World.ownsRow _ _ _ _ f.vn (f.now.set n p).length _
    rw [List.length_set, hv]
    exact ho'
  · exact own_but h.safe hB fun j hj hn => h.apart g (by rw [hv]; rfl) (by rw [hj, hn])
  · show f.safe.length = (f.now.set n p).length
    rw [List.length_set]
    exact h.len
  · intro s hs
    rcases List.mem_or_eq_of_mem_set hs with hs | hs
    · exact h.now64 s hs
    · rw [hs]; exact hp
  · show (f.now.set n p).length ≤ _
    rw [List.length_set]
    exact h.le

theorem infoWr : (Tryz.prog.info? 108).map (fun i => (i.zero.map (fun z => z.cells.size), i.size, i.bytes)) = some (some 66, 66, 80) := by kernel_rfl
theorem infoWr_parts : ∃ i z, Tryz.prog.info? 108 = some i ∧ i.zero = some z ∧ i.size = 66 ∧ i.bytes = 80 ∧ z.cells.size = 66 := by
  obtain ⟨i, h1, h2⟩ := Option.map_eq_some_iff.1 infoWr
  simp only [Prod.mk.injEq] at h2
  obtain ⟨z, hz, hzs⟩ := Option.map_eq_some_iff.1 h2.1
  exact ⟨i, z, h1, hz, h2.2.1, h2.2.2, hzs⟩
theorem sizeSec : (Tryz.prog.info? 106).map (·.size) = some 64 := by kernel_rfl
theorem placesW : (match Tryz.prog.underlying 108 with | some (.struct fs) => fs.toList.mapM (fun f => (Tryz.prog.info? f.type).map fun i => (f.offset, i.size)) | _ => none) = some [(0, 1), (1, 1), (2, 64)] := by kernel_rfl
theorem ovr3 (z : Array Value) (x y : Value) (s : List Value) (hz : z.size = s.length + 2) : ovr (ovr (ovr z 0 [x]) 1 [y]) 2 s = (x :: y :: s).toArray := by
  obtain ⟨l⟩ := z
  match l, hz with
  | a :: b :: r, hz =>
    have hr : r.length = s.length := by simp at hz; omega
    simp [ovr, hr]
    omega
  | [a], hz => simp at hz
  | [], hz => simp at hz
theorem wpC_len (w : Wr) (h : w.p.length = 64) : (wpC w).length = 66 := by simp [wpC, h]
theorem wpC_one (w : Wr) : ∀ u ∈ wpC w, u.oneCell' = true := by
  intro u hu
  simp only [wpC, List.mem_cons] at hu
  rcases hu with rfl | rfl | hu
  · rfl
  · rfl
  · exact secC_one w.p u hu
theorem builtW (w : Wr) (h : w.p.length = 64) : Tryz.prog.built 108 [(0, nv w.id), (1, nv w.n), (2, .agg (secC w.p).toArray)] = some (wpC w).toArray := by
  obtain ⟨i, z, hi, hz, hs, _, hzs⟩ := infoWr_parts
  have hp := placesW
  unfold Program.built
  rw [hi]
  cases hu : Tryz.prog.underlying 108 with
  | none => rw [hu] at hp; simp at hp
  | some d =>
    rw [hu] at hp
    cases d with
    | struct fs =>
      simp only at hp ⊢
      rw [hz, hp]
      simp only
      rw [fill_step (off := 0) (size := 1) (by rfl) (by rfl) (by omega)]
      rw [fill_step (off := 1) (size := 1) (by rfl) (by rfl) (by rw [ovr_size (by show 0 + 1 ≤ _; omega)]; omega)]
      rw [fill_step (off := 2) (size := 64) (by rfl) (by show (secC w.p).toArray.size = 64; simp [secC, h]) (by rw [ovr_size (by rw [ovr_size (by show 0 + 1 ≤ _; omega)]; show 1 + 1 ≤ _; omega), ovr_size (by show 0 + 1 ≤ _; omega)]; omega)]
      show some (ovr (ovr (ovr z.cells 0 [nv w.id]) 1 [nv w.n]) 2 (secC w.p).toArray.toList) = _
      rw [List.toList_toArray, ovr3 z.cells (nv w.id) (nv w.n) (secC w.p) (by rw [hzs, secC_len1, h])]
      rfl
    | _ => simp at hp

/-- One pending write more. -/
def Px.pushW (x : Px) (v : Value) (w : Wr) : Px := { x with vp := v, pend := x.pend ++ [w] }
theorem PD.pushW {W W1 : World} {q : Nat} {x : Px} (h : PD W q x) (c : Wr) (v' : Value) (hB : But (fun k => x.vp.ownBlock = some k) W W1) (hrow : W1.ownsRow 0 108 66 v' (x.pend.length + 1) (x.pend.flatMap wpC ++ wpC c))
    (hat : v'.ownBlock = x.vp.ownBlock ∨ ∀ k, v'.ownBlock = some k → W.heap.size ≤ k) (hc : c.p.length = 64 ∧ c.id ≤ x.made ∧ c.n < 4096 ∧ ∀ f ∈ x.fs, f.num = c.id → c.n < f.now.length) (hsm : x.pend.length < 1000000) :
    PD (W1.setCell ⟨q, 4, none⟩ v') q (x.pushW v' c) ∧ TurnP q x (x.pushW v' c) W (W1.setCell ⟨q, 4, none⟩ v') := by
  have hqn : x.vp.ownBlock ≠ some q := fun e => h.qP e
  have hB2 : But (fun k => k = q ∨ x.vp.ownBlock = some k) W (W1.setCell ⟨q, 4, none⟩ v') := But.setCell (hB.mono fun k hk => .inr hk) _ _ (.inl rfl)
  have hrow1 := hB.blockEq hqn h.row
  have hm : ∀ k, pUse (x.pushW v' c) k → pUse x k ∨ W.heap.size ≤ k := fun k hk => by
    rcases hat with h' | h'
    · exact .inl (h'.symm.trans hk)
    · exact .inr (h' k hk)
  refine ⟨⟨row_setCell hrow1 4 v', ?_, ?_, ?_, h.fnd, ⟨h.wf.room, h.wf.ne, h.wf.names, h.wf.nums, ?_, h.wf.first, ?_⟩⟩, ?_, ?_, ?_⟩
  · exact h.keepD hB2 fun k hk hd => hk.elim (fun e => h.qD (e ▸ hd)) (fun e => h.dP hd e)
  · exact h.keepF hB2 fun k hk hd => hk.elim (fun e => h.qF (e ▸ hd)) (fun e => h.fP hd e)
  · show (W1.setCell ⟨q, 4, none⟩ v').ownsRow 0 _ 66 v' (x.pend ++ [c]).length ((x.pend ++ [c]).flatMap wpC)
    rw [List.length_append, List.flatMap_append]
    simp only [List.length_cons, List.length_nil, List.flatMap_cons, List.flatMap_nil, List.append_nil]
    exact setCell_own hrow1 4 v' hrow (by decide)
  · intro w hw
    rcases List.mem_append.1 hw with hw | hw
    · exact h.wf.pend w hw
    · rw [List.mem_singleton.1 hw]; exact hc
  · have := h.wf.small
    refine ⟨this.1, this.2.1, ?_, this.2.2.2⟩
    show (x.pend ++ [c]).length ≤ _
    rw [List.length_append]
    exact hsm
  · intro k hk
    rcases hk with hk | hk | hk | hk
    · exact .inl (.inl hk)
    · exact .inl (.inr (.inl hk))
    · exact .inl (.inr (.inr (.inl hk)))
    · exact (hm k hk).imp (fun h' => .inr (.inr (.inr h'))) id
  · intro k hk
    rcases hk with hk | hk | hk | hk
    · exact .inl (.inl hk)
    · exact .inl (.inr (.inl hk))
    · exact .inl (.inr (.inr (.inl hk)))
    · exact (hm k hk).imp (fun h' => .inr (.inr (.inr h'))) id
  · exact hB2.mono fun k hk => hk.elim .inl fun h' => .inr (.inr (.inr h'))
theorem wpC_flat {l : List Wr} (h : ∀ w ∈ l, w.p.length = 64) : (l.flatMap wpC).length = l.length * 66 := by
  induction l with
  | nil => rfl
  | cons a l ih =>
    rw [List.flatMap_cons, List.length_append, ih (fun w hw => h w (by simp [hw])), wpC_len a (h a (by simp)), List.length_cons]
    omega
theorem HL_ofK {α : Type} (n k : Nat) (xs ys : List α) (hx : xs.length = n * k) (hy : ys.length = k) (hk : 0 < k) : ∀ p ∈ [(n, xs), (1, ys), (n + 1, xs ++ ys)], p.1 ≤ n ∨ (p.1 ≤ n + 1 ∧ p.2 = (xs ++ ys).take (p.1 * k)) := by
  intro p hp
  simp only [List.mem_cons, List.not_mem_nil, or_false] at hp
  rcases hp with rfl | rfl | rfl
  · left; exact Nat.le_refl _
  · rcases Nat.eq_zero_or_pos n with h0 | h0
    · right
      have : xs = [] := List.eq_nil_of_length_eq_zero (by rw [hx, h0, Nat.zero_mul])
      rw [this, List.nil_append]
      exact ⟨by show 1 ≤ n + 1; omega, by rw [List.take_of_length_le]; show ys.length ≤ 1 * k; omega⟩
    · left; exact h0
  · right
    refine ⟨Nat.le_refl _, ?_⟩
    rw [List.take_of_length_le]
    rw [List.length_append, hx, hy, Nat.add_mul, Nat.one_mul]
    exact Nat.le_refl _

set_option maxRecDepth 100000 in
set_option maxHeartbeats 4000000 in
theorem pWriteI {w : World} {q : Nat} {x : Px} (h : PD w q x) (nm : Nm) (hn : okS nm) (n : Int) (hnI : -9223372036854775808 ≤ n ∧ n ≤ 9223372036854775807) (vp : Value) (p : List UInt8) (hp : Byt w vp p) (hout : Outside (mutP q x) vp) (hpl : p.length ≤ 1000000000000) (hsm : x.pend.length < 1000000) :
    Calls Tryz.prog 76 #[.pointer (some ⟨q, 0, none⟩), sv nm, .int .i64 n, vp] w fun e w' => e = .returned (.int .i64 (writeP x.s nm n p).1) ∧ ∃ x', PD w' q x' ∧ x'.s = (writeP x.s nm n p).2 ∧ TurnP q x x' w w' := by
  have hmx : Tryz.prog.follows .mixedOrders = true := by kernel_rfl
  have HB := Lib.hid (pBeginWith h nm hn)
  unfold sv at HB ⊢
  obtain ⟨ap, cp, rfl⟩ := hp.slice
  have HPp := Lib.hid hp
  have Hout := Lib.hid hout
  obtain ⟨pl, Hpl⟩ : ∃ y, Hid (p.length = y) := ⟨_, rfl⟩
  rw [Hpl.out] at HPp Hout hpl ⊢
  have hplI : (pl : Int) ≤ 1000000000000 := by omega
  have Hsm := Lib.hid hsm
  by_cases hf : (beginP x.s).1 = 0
  · have hr : bwR x nm = findR (nowX x).2 nm := by unfold bwR; rw [if_pos hf]
    rw [hr] at HB
    cases hd : findA (nowX x).2 nm with
    | none =>
      have hr' : findR (nowX x).2 nm = .tuple #[.int .i64 0, .int .i64 7] := by unfold findR; rw [hd]
      have Hr : Hid (writeP x.s nm n p = (7, (beginX x).s)) := by
        show _ = _
        unfold writeP
        rw [guardP_yes hf, ← beginX_s, nowX_s, show (nowX (beginX x)).2 = (nowX x).2 from rfl, hd]
      rw [hr'] at HB
      clear h hn hf hr hd hr' hnI hp hout hsm
      go_enter Tryz.func76, Tryz.ntmps76
      go_wp2_with fail
      refine HB.out.mono ?_
      rintro e w1 ⟨rfl, hP, hT⟩
      have HP := Lib.hid hP
      have HT := Lib.hid hT
      clear hP hT
      go_wp2
      go_ret
      exact ⟨by rw [Hr.out]; rfl, beginX x, HP.out, by rw [Hr.out], HT.out⟩
    | some k =>
      have hr' : findR (nowX x).2 nm = .tuple #[.int .i64 (k : Int), .int .i64 0] := by unfold findR; rw [hd]; rfl
      obtain ⟨f, hfm, hfn⟩ := h.named (nowX_mem x h.wf.ne) hd
      have Hfi := Lib.hid hfm
      have Hfn := Lib.hid hfn
      have hfp : fileP (beginX x).s k = (f.now, f.safe) := by rw [← hfn]; exact h.fileP hfm
      have Hs : Hid (writeP x.s nm n p = if n < 0 ∨ (f.now.length : Int) ≤ n then (43, (beginX x).s) else if p.length ≠ 64 then (2, (beginX x).s)
          else (0, { (beginX x).s with files := setFile (beginX x).s.files k (f.now.set n.toNat p, f.safe), pend := (beginX x).s.pend ++ [⟨k, n.toNat, p⟩] })) := by
        show _ = _
        unfold writeP
        rw [guardP_yes hf, ← beginX_s, nowX_s, show (nowX (beginX x)).2 = (nowX x).2 from rfl, hd]
        simp only [hfp]
      have Hokp : Hid (okI k) := okI_small (by rw [← hfn]; exact Nat.le_trans (h.wf.nums f hfm) h.wf.small.2.2.2)
      have Hkm : Hid (k ≤ x.made) := by show _ ≤ _; rw [← hfn]; exact h.wf.nums f hfm
      have Hle := Lib.hid (h.files.ok f hfm).le
      rw [hr'] at HB
      clear h hn hf hr hd hr' hfm hfn hfp hp hout hsm
      obtain ⟨L, HL⟩ : ∃ L, Hid (f.now.length = L) := ⟨_, rfl⟩
      obtain ⟨b, Hb⟩ : ∃ b, Hid (f.blk = b) := ⟨_, rfl⟩
      rw [HL.out, Hpl.out] at Hs
      rw [HL.out] at Hle
      have hLI : (L : Int) ≤ 4096 := by have := Hle.out; omega
      by_cases h1 : n < 0
      · have Hr : Hid (writeP x.s nm n p = (43, (beginX x).s)) := by show _ = _; rw [Hs.out, if_pos (.inl h1)]
        go_enter Tryz.func76, Tryz.ntmps76
        go_wp2_with fail
        refine HB.out.mono ?_
        rintro e w1 ⟨rfl, hP, hT⟩
        have HP := Lib.hid hP
        have HT := Lib.hid hT
        have hfo := hP.files.ok f Hfi.out
        have Hfo := Lib.hid hfo
        obtain ⟨a, c, a', c', e1, e2, d0, d1⟩ := fi_form hfo
        have hlk := hP.look Hfi.out
        rw [Hfn.out, Hb.out] at hlk
        have Hlk1 := Lib.hid hlk
        have HM1 := Lib.hid hP.files.map
        have Hok1 := Lib.hid hP.okF
        have c2 := hP.cell 2 (mv (beginX x).fm) rfl
        have cr := hP.cell 0 (nv (beginX x).room) rfl
        obtain ⟨fm, Hfm⟩ : ∃ y, Hid ((beginX x).fm = y) := ⟨_, rfl⟩
        rw [Hfm.out] at c2 HM1
        rw [HL.out] at e1 e2 d0 d1
        rw [Hb.out] at d0 d1
        unfold mv at c2
        unfold nv at cr
        have E1 := Lib.hid e1
        have E2 := Lib.hid e2
        clear hP hT hfo hlk e1 e2
        go_wp2_with (at_lookup; refine wpList_lookA rfl _ _ 95 109 false rfl HM1.out keyF Hok1.out Tryz.underlying95 _ (zeroFile _) k Hokp.out rfl rfl (.pointer (some ⟨b, 0, none⟩)) (by rw [Hlk1.out]; rfl) ?_)
        go_ret
        exact ⟨by rw [Hr.out]; rfl, beginX x, HP.out, by rw [Hr.out], HT.out⟩
      · by_cases h2 : (L : Int) ≤ n
        · have Hr : Hid (writeP x.s nm n p = (43, (beginX x).s)) := by show _ = _; rw [Hs.out, if_pos (.inr h2)]
          go_enter Tryz.func76, Tryz.ntmps76
          go_wp2_with fail
          refine HB.out.mono ?_
          rintro e w1 ⟨rfl, hP, hT⟩
          have HP := Lib.hid hP
          have HT := Lib.hid hT
          have hfo := hP.files.ok f Hfi.out
          have Hfo := Lib.hid hfo
          obtain ⟨a, c, a', c', e1, e2, d0, d1⟩ := fi_form hfo
          have hlk := hP.look Hfi.out
          rw [Hfn.out, Hb.out] at hlk
          have Hlk1 := Lib.hid hlk
          have HM1 := Lib.hid hP.files.map
          have Hok1 := Lib.hid hP.okF
          have c2 := hP.cell 2 (mv (beginX x).fm) rfl
          have cr := hP.cell 0 (nv (beginX x).room) rfl
          obtain ⟨fm, Hfm⟩ : ∃ y, Hid ((beginX x).fm = y) := ⟨_, rfl⟩
          rw [Hfm.out] at c2 HM1
          rw [HL.out] at e1 e2 d0 d1
          rw [Hb.out] at d0 d1
          unfold mv at c2
          unfold nv at cr
          have E1 := Lib.hid e1
          have E2 := Lib.hid e2
          clear hP hT hfo hlk e1 e2
          go_wp2_with (at_lookup; refine wpList_lookA rfl _ _ 95 109 false rfl HM1.out keyF Hok1.out Tryz.underlying95 _ (zeroFile _) k Hokp.out rfl rfl (.pointer (some ⟨b, 0, none⟩)) (by rw [Hlk1.out]; rfl) ?_)
          go_ret
          exact ⟨by rw [Hr.out]; rfl, beginX x, HP.out, by rw [Hr.out], HT.out⟩
        · by_cases h3 : pl = 64
          · obtain ⟨m, rfl⟩ : ∃ m : Nat, n = (m : Int) := ⟨n.toNat, by omega⟩
            have Hml : Hid (m < L) := by show _ < _; omega
            have hmL : (m : Int) < (L : Int) := by omega
            have Hr : Hid (writeP x.s nm (m : Int) p = (0, { (beginX x).s with files := setFile (beginX x).s.files k (f.now.set m p, f.safe), pend := (beginX x).s.pend ++ [⟨k, m, p⟩] })) := by
              show _ = _; rw [Hs.out, if_neg (by omega), if_neg (by simpa using h3)]; rfl
            subst h3
            clear Hs hplI hpl hnI
            go_enter Tryz.func76, Tryz.ntmps76
            go_wp2_with fail
            refine HB.out.mono ?_
            rintro e w1 ⟨rfl, hP, hT⟩
            have HP := Lib.hid hP
            have HT := Lib.hid hT
            have hfo := hP.files.ok f Hfi.out
            have Hfo := Lib.hid hfo
            obtain ⟨a, c, a', c', e1, e2, d0, d1⟩ := fi_form hfo
            have hlk := hP.look Hfi.out
            rw [Hfn.out, Hb.out] at hlk
            have Hlk1 := Lib.hid hlk
            have HM1 := Lib.hid hP.files.map
            have Hok1 := Lib.hid hP.okF
            have c2 := hP.cell 2 (mv (beginX x).fm) rfl
            have cr := hP.cell 0 (nv (beginX x).room) rfl
            obtain ⟨fm, Hfm⟩ : ∃ y, Hid ((beginX x).fm = y) := ⟨_, rfl⟩
            rw [Hfm.out] at c2 HM1
            rw [HL.out] at e1 e2 d0 d1
            rw [Hb.out] at d0 d1
            unfold mv at c2
            unfold nv at cr
            have E1 := Lib.hid e1
            have E2 := Lib.hid e2
            clear hP hT hfo hlk e1 e2
            have hByt := HPp.out.but HT.out.but Hout.out
            obtain ⟨pb, po, hap, hpc⟩ : ∃ pb po, ap = some ⟨pb, po, none⟩ ∧ ∀ i, i < p.length → w1.cell? ⟨pb, po + i, none⟩ = some (bv (p.getD i 0)) := by
              obtain ⟨_, _, e, _, _, _, h4⟩ := hByt
              simp only [Value.slice.injEq] at e
              obtain ⟨rfl, -, rfl⟩ := e
              rcases h4 with h4 | ⟨pb, po, h4, h5⟩
              · have := Hpl.out; rw [h4] at this; simp at this
              · exact ⟨pb, po, h4, h5⟩
            subst hap
            have HPr : Hid (∀ j u, (secC p)[j]? = some u → w1.cell? ⟨pb, po + j, none⟩ = some u) := fun j u hu => by
              have hj : j < p.length := by have := (List.getElem?_eq_some_iff.1 hu).1; rw [secC_len1] at this; exact this
              rw [hpc j hj, ← hu]
              show _ = (p.map bv)[j]?
              simp [List.getD, hj]
            obtain ⟨g, cg, eg⟩ := own_some Hfo.out.now (by have := Hml.out; rw [HL.out]; omega)
            rw [HL.out] at eg
            have eac := eg
            rw [E1.out] at eac
            simp only [Value.slice.injEq] at eac
            obtain ⟨rfl, -, rfl⟩ := eac
            clear hByt hpc HPp Hout
            have Eg := Lib.hid eg
            clear eg
            go_wp2_with (first | (at_lookup; refine wpList_lookA rfl _ _ 95 109 false rfl HM1.out keyF Hok1.out Tryz.underlying95 _ (zeroFile _) k Hokp.out rfl rfl (.pointer (some ⟨b, 0, none⟩)) (by rw [Hlk1.out]; rfl) ?_) | go_in)
            have eg := Eg.out
            refine specs_last 9
              #[[], [0], [0, 1], [0, 1, 2], [], [], [5], [5, 6], [0, 1, 2, 3, 4, 5, 6, 7], [0, 1, 2, 3, 4, 5, 6, 7, 8]] #[[11], [], [], [], [2], [3], [], [], [], []] #[true, true, true, true, true, true, true, true, true, true]
              ((.val ?va0) :: (.val ?va1) :: (.val ?va2) :: (.val ?va3) :: (.val ?va4) :: (.val ?va5) :: (.val (.pointer (some ⟨pb, po, none⟩))) :: (.val (.agg (secC p).toArray)) :: (.val ?va8) :: (.any) :: []).toArray
              hmx ?chka ?grda rfl ?stpa ?rsta
            case chka => rfl
            case stpa =>
              refine ⟨?_, ?_, ?_, ?_, ?_, ?_, ?_, ?_, ?_, ?_, trivial⟩
              · refine step_intro rfl rfl fun ρ X hc hf hgl hX hp ho => ?_
                change StepOk _ { dst := _, op := Op.move (Operand.tmp 11), type := _, pos := _, after := _, guard := _ } _ _ _
                have k11 : ρ (.tmp 11) = .pointer (some ⟨b, 0, none⟩) := ho 11 (by decide)
                clear hp ho
                refine StepOk.of_run (v := ?va0) (w' := X) ?_ ⟨rfl, Below.refl _ _⟩
                clear hX
                go_simp
                all_goals try go_bits
                all_goals try simp only [IntWalk.iteOmega]
                all_goals try go_bits
                all_goals rfl
              · refine step_intro rfl rfl fun ρ X hc hf hgl hX hp ho => ?_
                change StepOk _ { dst := _, op := Op.nilCheck (Operand.tmp 41), type := _, pos := _, after := _, guard := _ } _ _ _
                have k41 : ρ (.tmp 41) = ?va0 := hp 0 (by decide)
                clear hp ho
                refine StepOk.of_run (v := ?va1) (w' := X) ?_ ⟨rfl, Below.refl _ _⟩
                clear hX
                go_simp
                all_goals try go_bits
                all_goals try simp only [IntWalk.iteOmega]
                all_goals try go_bits
                all_goals rfl
              · refine step_intro rfl rfl fun ρ X hc hf hgl hX hp ho => ?_
                change StepOk _ { dst := _, op := Op.fieldAddr 113 (Operand.tmp 42) 0, type := _, pos := _, after := _, guard := _ } _ _ _
                have k42 : ρ (.tmp 42) = ?va1 := hp 1 (by decide)
                clear hp ho
                refine StepOk.of_run (v := ?va2) (w' := X) ?_ ⟨rfl, Below.refl _ _⟩
                clear hX
                go_simp
                all_goals try go_bits
                all_goals try simp only [IntWalk.iteOmega]
                all_goals try go_bits
                all_goals rfl
              · refine step_intro rfl rfl fun ρ X hc hf hgl hX hp ho => ?_
                change StepOk _ { dst := _, op := Op.load 110 (Operand.tmp 43), type := _, pos := _, after := _, guard := _ } _ _ _
                have k43 : ρ (.tmp 43) = ?va2 := hp 2 (by decide)
                have d0X := Grows.cell' hX d0
                clear hp ho
                refine StepOk.of_run (v := ?va3) (w' := X) ?_ ⟨rfl, Below.refl _ _⟩
                clear hX
                go_simp
                all_goals try go_bits
                all_goals try simp only [IntWalk.iteOmega]
                all_goals try go_bits
                all_goals rfl
              · refine step_intro rfl rfl fun ρ X hc hf hgl hX hp ho => ?_
                change StepOk _ { dst := _, op := Op.move (Operand.tmp 2), type := _, pos := _, after := _, guard := _ } _ _ _
                have k2 : ρ (.tmp 2) = .int .i64 (m : Int) := ho 2 (by decide)
                clear hp ho
                refine StepOk.of_run (v := ?va4) (w' := X) ?_ ⟨rfl, Below.refl _ _⟩
                clear hX
                go_simp
                all_goals try go_bits
                all_goals try simp only [IntWalk.iteOmega]
                all_goals try go_bits
                all_goals rfl
              · refine step_intro rfl rfl fun ρ X hc hf hgl hX hp ho => ?_
                change StepOk _ { dst := _, op := Op.move (Operand.tmp 3), type := _, pos := _, after := _, guard := _ } _ _ _
                have k3 : ρ (.tmp 3) = .slice (some ⟨pb, po, none⟩) 64 cp := ho 3 (by decide)
                clear hp ho
                refine StepOk.of_run (v := ?va5) (w' := X) ?_ ⟨rfl, Below.refl _ _⟩
                clear hX
                go_simp
                all_goals try go_bits
                all_goals try simp only [IntWalk.iteOmega]
                all_goals try go_bits
                all_goals rfl
              · refine step_intro rfl rfl fun ρ X hc hf hgl hX hp ho => ?_
                change StepOk _ { dst := _, op := Op.sliceToArrayPointer 106 (Operand.tmp 46), type := _, pos := _, after := _, guard := _ } _ _ _
                have k46 : ρ (.tmp 46) = ?va5 := hp 5 (by decide)
                clear hp ho
                refine StepOk.of_run (v := .pointer (some ⟨pb, po, none⟩)) (w' := X) ?_ ⟨rfl, Below.refl _ _⟩
                simp [execOp, Instr.arrayAt, run_underlying Tryz.underlying106, k46]
              · refine step_intro rfl rfl fun ρ X hc hf hgl hX hp ho => ?_
                change StepOk _ { dst := _, op := Op.load 106 (Operand.tmp 47), type := _, pos := _, after := _, guard := _ } _ _ _
                have k47 : ρ (.tmp 47) = (.pointer (some ⟨pb, po, none⟩)) := hp 6 (by decide)
                refine stepOk_loadPart 106 _ rfl pb po (secC p) _ k47 (fun j u hu => Grows.cell' hX (HPr.out j u hu)) Tryz.underlying106 rfl (by rw [sizeSec, secC_len1, Hpl.out]) ⟨rfl, Below.refl _ _⟩
              · refine step_intro rfl rfl fun ρ X hc hf hgl hX hp ho => ?_
                change StepOk _ { dst := _, op := Op.indexAddr 110 (Operand.tmp 44) (Operand.tmp 45), type := _, pos := _, after := _, guard := _ } _ _ _
                have k44 : ρ (.tmp 44) = ?va3 := hp 3 (by decide)
                have k45 : ρ (.tmp 45) = ?va4 := hp 4 (by decide)
                clear hp ho
                refine StepOk.of_run (v := ?va8) (w' := X) ?_ ⟨rfl, Below.refl _ _⟩
                clear hX
                go_simp
                all_goals try go_bits
                all_goals try simp only [IntWalk.iteOmega]
                all_goals try go_bits
                all_goals rfl
              · exact last_intro rfl
            case grda => rfl
            case rsta =>
              intro a0 X hb
              have hfr := hb.frame ((41, ?va0) :: (42, ?va1) :: (43, ?va2) :: (44, ?va3) :: (45, ?va4) :: (46, ?va5) :: (47, (.pointer (some ⟨pb, po, none⟩))) :: (48, (.agg (secC p).toArray)) :: (49, ?va8) :: []) rfl ⟨hb.done' 0 41 rfl rfl, hb.done' 1 42 rfl rfl, hb.done' 2 43 rfl rfl, hb.done' 3 44 rfl rfl, hb.done' 4 45 rfl rfl, hb.done' 5 46 rfl rfl, hb.done' 6 47 rfl rfl, hb.done' 7 48 rfl rfl, hb.done' 8 49 rfl rfl, trivial⟩
              simp only [updL, ↓reduceIte, Nat.reduceEqDiff, Nat.reduceAdd, Nat.zero_add] at hfr
              have HX := Lib.hid hb.ext
              clear hb
              subst hfr
              change StepOk _ { dst := _, op := Op.store 106 (Operand.tmp 49) (Operand.tmp 48), type := _, pos := _, after := _, guard := _ } _ _ _
              have hfX := Hfo.out.kept (HX.out.block _ (Array.getElem?_eq_some_iff.1 Hfo.out.row).1) fun j hj => HX.out.block _ (kind_lt (Hfo.out.kind hj))
              obtain ⟨cur, hgc, hfit, hf9, hB9⟩ := hfX.put eg m (by have := Hml.out; rw [HL.out]; omega) p Hpl.out
              refine stepOk_storePart 106 _ _ rfl g (m * 64) 106 cur (secC p) _ rfl rfl rfl hgc hfit (by rw [sizeSec, secC_len1, Hpl.out]) (secC_one p) ?_
              have hset := (HP.out.grows HX.out).setF f { f with now := f.now.set m p } Hfi.out rfl rfl hB9 (fun j hj => .inr (.inl (.inl (by rw [eg, hj]; rfl)))) hf9 (fun j hj => .inl hj) (by simp)
              obtain ⟨w9, hw9⟩ : ∃ y, X.setRow g (ovr cur (m * 64) (secC p)) = y := ⟨_, rfl⟩
              rw [hw9] at hset hf9 ⊢
              have HR2 := Lib.hid hset.1
              have HT9 : Hid (TurnP q x ((beginX x).setF { f with now := f.now.set m p }) w w9) := (HT.out.trans (TurnP.ofGrows HX.out)).trans hset.2
              have HF9 := Lib.hid hf9
              clear hfX hgc hfit hB9 hset hw9 HX cur hf9 X
              obtain ⟨i0, z0, hi, hz, hs2, hb2, hzs⟩ := infoWr_parts
              have c0 : w9.cell? ⟨b, 0, none⟩ = some (.slice (some ⟨g, 0, none⟩) L c) := by have := cell_of_row w9 f.blk 0 _ _ _ HF9.out.row; rw [Hb.out] at this; rw [this]; show some f.vn = _; rw [eg]
              have hr9 := HF9.out.row
              rw [show ({ f with now := f.now.set m p } : Fi).blk = f.blk from rfl, Hb.out] at hr9
              have hgk : kindAt w9 g = some (some 106) := HF9.out.kind (.inl (by show f.vn.ownBlock = _; rw [eg]; rfl))
              have HSr : Hid (∀ j u, (secC p)[j]? = some u → w9.cell? ⟨g, m * 64 + j, none⟩ = some u) := fun j u hu => by
                have hj : j < 64 := by have := (List.getElem?_eq_some_iff.1 hu).1; rw [secC_len1, Hpl.out] at this; exact this
                have ho := HF9.out.now
                rw [show ({ f with now := f.now.set m p } : Fi).vn = f.vn from rfl, eg] at ho
                have hl9 : ({ f with now := f.now.set m p } : Fi).now.length = L := by show (f.now.set m p).length = L; rw [List.length_set]; exact HL.out
                rw [hl9] at ho
                refine own_cell ho _ _ ?_
                rw [secC_get HF9.out.now64 m (by rw [hl9]; exact Hml.out) j hj]
                rw [← hu]
                show _ = (p.map bv)[j]?
                have hmm : m < f.now.length := by rw [HL.out]; exact Hml.out
                have hjp : j < p.length := by rw [Hpl.out]; exact hj
                simp [List.getD, hmm, hjp]
              obtain ⟨aw, cw, e1⟩ := own_form HR2.out.pend
              have c4 := HR2.out.cell 4 x.vp rfl
              have hnq : ¬ (x.vp.ownBlock = some q) := fun e => HR2.out.qP e
              have hnb : ¬ (x.vp.ownBlock = some b) := own_ne HR2.out.pend hr9 (by decide)
              have hng : ¬ (x.vp.ownBlock = some g) := fun e => by have h1 := kind_own HR2.out.pend e; rw [hgk] at h1; simp at h1
              have hown : w9.ownsRow 0 108 66 x.vp x.pend.length (x.pend.flatMap wpC) := HR2.out.pend
              have Hwf : Hid (p.length = 64 ∧ k ≤ x.made ∧ m < 4096 ∧ ∀ g' ∈ ((beginX x).setF { f with now := f.now.set m p }).fs, g'.num = k → m < g'.now.length) := by
                refine ⟨Hpl.out, Hkm.out, by have := Hml.out; have := Hle.out; omega, fun g' hg' he => ?_⟩
                rcases setF_mem (x := beginX x) (f := f) (f' := { f with now := f.now.set m p }) Hfi.out rfl hg' with h' | ⟨h', h''⟩
                · rw [h']; show m < (f.now.set m p).length; rw [List.length_set, HL.out]; exact Hml.out
                · exact absurd (he.trans Hfn.out.symm) h''
              obtain ⟨nw, HnW2⟩ : ∃ n, Hid (x.pend.length = n) := ⟨_, rfl⟩
              obtain ⟨xs, Hxs⟩ : ∃ xs, Hid (x.pend.flatMap wpC = xs) := ⟨_, rfl⟩
              obtain ⟨ws, Hws⟩ : ∃ y, Hid (w9.heap.size = y) := ⟨_, rfl⟩
              have Hvw : Hid (x.vp = .slice aw nw cw) := by show _ = _; rw [← HnW2.out]; exact e1
              rw [Hvw.out] at c4 hnq hnb hng hown
              rw [HnW2.out, Hxs.out] at hown
              have HnW : Hid (nw < 1000000) := by show _ < _; rw [← HnW2.out]; exact Hsm.out
              have HnW3 : Hid (x.pend.length < 1000000) := Hsm.out
              have HLL : Hid (∀ p' ∈ [(nw, xs), (1, wpC ⟨k, m, p⟩), (nw + 1, xs ++ wpC ⟨k, m, p⟩)], p'.1 ≤ nw ∨ (p'.1 ≤ nw + 1 ∧ p'.2 = (xs ++ wpC ⟨k, m, p⟩).take (p'.1 * 66))) := HL_ofK nw 66 xs (wpC ⟨k, m, p⟩) hown.1 (wpC_len ⟨k, m, p⟩ Hpl.out) (by omega)
              have Hown := Lib.hid hown
              clear e1 hown hgk hr9
              go_wp2
              refine region_K_last (E := (EApp (fun k => Value.ownBlock (.slice aw nw cw) = some k) 108 66 [(nw, xs), (1, wpC ⟨k, m, p⟩), (nw + 1, xs ++ wpC ⟨k, m, p⟩)])) (EApp.ok (fun k => Value.ownBlock (.slice aw nw cw) = some k) 108 66 [(nw, xs), (1, wpC ⟨k, m, p⟩), (nw + 1, xs ++ wpC ⟨k, m, p⟩)]) EApp.ofGrows 19
                #[[], [], [1], [1, 2], [1, 2, 3], [], [], [], [7], [7, 8], [7, 8, 9], [], [7, 8, 9, 10, 11], [7, 8, 9, 10, 11, 12], [5, 6, 7, 8, 9, 10, 11, 12, 13], [5, 6, 7, 8, 9, 10, 11, 12, 13, 14], [1, 2, 3, 4, 5, 6, 7, 8, 9, 10, 11, 12, 13, 14, 15], [0, 1, 2, 3, 4, 5, 6, 7, 8, 9, 10, 11, 12, 13, 14, 15, 16], [0, 1, 2, 3, 4, 5, 6, 7, 8, 9, 10, 11, 12, 13, 14, 15, 16, 17], [0, 1, 2, 3, 4, 5, 6, 7, 8, 9, 10, 11, 12, 13, 14, 15, 16, 17, 18]] #[[0], [0], [], [], [], [9], [2], [11], [], [], [], [2], [], [], [], [], [], [], [], []] #[true, true, true, true, true, true, true, true, true, true, true, true, true, true, true, true, true, true, true, true]
                ((.val ?ve0) :: (.val ?ve1) :: (.val ?ve2) :: (.val ?ve3) :: (.val ?ve4) :: (.val ?ve5) :: (.val ?ve6) :: (.val ?ve7) :: (.val ?ve8) :: (.val ?ve9) :: (.val ?ve10) :: (.val ?ve11) :: (.val ?ve12) :: (.val (.agg (secC p).toArray)) :: (.val (.agg (wpC ⟨k, m, p⟩).toArray)) :: (.pred (fun v W => W.ownsRow 0 108 66 v 1 (wpC ⟨k, m, p⟩) ∧ ∃ g, v = .slice (some ⟨g, 0, none⟩) 1 1) (fun v a b h ho => ⟨EApp.own (by simp) v a b h ho.1, ho.2⟩)) :: (.pred (fun v W => W.ownsRow 0 108 66 v (nw + 1) (xs ++ wpC ⟨k, m, p⟩) ∧ (v.ownBlock = Value.ownBlock (.slice aw nw cw) ∨ ∀ j, v.ownBlock = some j → ws ≤ j)) (fun v a b h ho => ⟨EApp.own (by simp) v a b h ho.1, ho.2⟩)) :: (.val ?ve17) :: (.val ?ve18) :: (.any) :: []).toArray
                (noState [16])
                (fun _ _ _ _ _ _ _ _ => trivial)
                (fun _ _ => trivial)
                hmx ?chke rfl ?grde rfl ?stpe ?rste
              case chke => rfl
              case stpe =>
                refine ⟨?_, ?_, ?_, ?_, ?_, ?_, ?_, ?_, ?_, ?_, ?_, ?_, ?_, ?_, ?_, ?_, ?_, ?_, ?_, ?_, trivial⟩
                · refine step_introK rfl rfl fun ρ X hc hf hgl hX hp ho hu => ?_
                  change StepOk _ { dst := _, op := Op.move (Operand.tmp 0), type := _, pos := _, after := _, guard := _ } _ _ _
                  have k0 : ρ (.tmp 0) = .pointer (some ⟨q, 0, none⟩) := ho 0 (by decide)
                  refine stepK_plain (i := 0) rfl ?_
                  clear hu
                  clear hp ho
                  refine StepOk.of_run (v := ?ve0) (w' := X) ?_ ⟨rfl, Below.refl _ _⟩
                  clear hX
                  go_simp
                  all_goals try go_bits
                  all_goals try simp only [IntWalk.iteOmega]
                  all_goals try go_bits
                  all_goals rfl
                · refine step_introK rfl rfl fun ρ X hc hf hgl hX hp ho hu => ?_
                  change StepOk _ { dst := _, op := Op.move (Operand.tmp 0), type := _, pos := _, after := _, guard := _ } _ _ _
                  have k0 : ρ (.tmp 0) = .pointer (some ⟨q, 0, none⟩) := ho 0 (by decide)
                  refine stepK_plain (i := 1) rfl ?_
                  clear hu
                  clear hp ho
                  refine StepOk.of_run (v := ?ve1) (w' := X) ?_ ⟨rfl, Below.refl _ _⟩
                  clear hX
                  go_simp
                  all_goals try go_bits
                  all_goals try simp only [IntWalk.iteOmega]
                  all_goals try go_bits
                  all_goals rfl
                · refine step_introK rfl rfl fun ρ X hc hf hgl hX hp ho hu => ?_
                  change StepOk _ { dst := _, op := Op.nilCheck (Operand.tmp 51), type := _, pos := _, after := _, guard := _ } _ _ _
                  have k51 : ρ (.tmp 51) = ?ve1 := hp 1 (by decide)
                  refine stepK_plain (i := 2) rfl ?_
                  clear hu
                  clear hp ho
                  refine StepOk.of_run (v := ?ve2) (w' := X) ?_ ⟨rfl, Below.refl _ _⟩
                  clear hX
                  go_simp
                  all_goals try go_bits
                  all_goals try simp only [IntWalk.iteOmega]
                  all_goals try go_bits
                  all_goals rfl
                · refine step_introK rfl rfl fun ρ X hc hf hgl hX hp ho hu => ?_
                  change StepOk _ { dst := _, op := Op.fieldAddr 100 (Operand.tmp 52) 4, type := _, pos := _, after := _, guard := _ } _ _ _
                  have k52 : ρ (.tmp 52) = ?ve2 := hp 2 (by decide)
                  refine stepK_plain (i := 3) rfl ?_
                  clear hu
                  clear hp ho
                  refine StepOk.of_run (v := ?ve3) (w' := X) ?_ ⟨rfl, Below.refl _ _⟩
                  clear hX
                  go_simp
                  all_goals try go_bits
                  all_goals try simp only [IntWalk.iteOmega]
                  all_goals try go_bits
                  all_goals rfl
                · refine step_introK rfl rfl fun ρ X hc hf hgl hX hp ho hu => ?_
                  change StepOk _ { dst := _, op := Op.load 96 (Operand.tmp 53), type := _, pos := _, after := _, guard := _ } _ _ _
                  have k53 : ρ (.tmp 53) = ?ve3 := hp 3 (by decide)
                  refine stepK_plain (i := 4) rfl ?_
                  clear hu
                  have c4X := hX.but.cell (p := ⟨q, _, none⟩) hnq c4
                  have c0X := hX.but.cell (p := ⟨b, _, none⟩) hnb c0
                  clear hp ho
                  refine StepOk.of_run (v := ?ve4) (w' := X) ?_ ⟨rfl, Below.refl _ _⟩
                  clear hX
                  go_simp
                  all_goals try go_bits
                  all_goals try simp only [IntWalk.iteOmega]
                  all_goals try go_bits
                  all_goals rfl
                · refine step_introK rfl rfl fun ρ X hc hf hgl hX hp ho hu => ?_
                  change StepOk _ { dst := _, op := Op.move (Operand.tmp 9), type := _, pos := _, after := _, guard := _ } _ _ _
                  have k9 : ρ (.tmp 9) = .int .i64 (k : Int) := ho 9 (by decide)
                  refine stepK_plain (i := 5) rfl ?_
                  clear hu
                  clear hp ho
                  refine StepOk.of_run (v := ?ve5) (w' := X) ?_ ⟨rfl, Below.refl _ _⟩
                  clear hX
                  go_simp
                  all_goals try go_bits
                  all_goals try simp only [IntWalk.iteOmega]
                  all_goals try go_bits
                  all_goals rfl
                · refine step_introK rfl rfl fun ρ X hc hf hgl hX hp ho hu => ?_
                  change StepOk _ { dst := _, op := Op.move (Operand.tmp 2), type := _, pos := _, after := _, guard := _ } _ _ _
                  have k2 : ρ (.tmp 2) = .int .i64 (m : Int) := ho 2 (by decide)
                  refine stepK_plain (i := 6) rfl ?_
                  clear hu
                  clear hp ho
                  refine StepOk.of_run (v := ?ve6) (w' := X) ?_ ⟨rfl, Below.refl _ _⟩
                  clear hX
                  go_simp
                  all_goals try go_bits
                  all_goals try simp only [IntWalk.iteOmega]
                  all_goals try go_bits
                  all_goals rfl
                · refine step_introK rfl rfl fun ρ X hc hf hgl hX hp ho hu => ?_
                  change StepOk _ { dst := _, op := Op.move (Operand.tmp 11), type := _, pos := _, after := _, guard := _ } _ _ _
                  have k11 : ρ (.tmp 11) = .pointer (some ⟨b, 0, none⟩) := ho 11 (by decide)
                  refine stepK_plain (i := 7) rfl ?_
                  clear hu
                  clear hp ho
                  refine StepOk.of_run (v := ?ve7) (w' := X) ?_ ⟨rfl, Below.refl _ _⟩
                  clear hX
                  go_simp
                  all_goals try go_bits
                  all_goals try simp only [IntWalk.iteOmega]
                  all_goals try go_bits
                  all_goals rfl
                · refine step_introK rfl rfl fun ρ X hc hf hgl hX hp ho hu => ?_
                  change StepOk _ { dst := _, op := Op.nilCheck (Operand.tmp 57), type := _, pos := _, after := _, guard := _ } _ _ _
                  have k57 : ρ (.tmp 57) = ?ve7 := hp 7 (by decide)
                  refine stepK_plain (i := 8) rfl ?_
                  clear hu
                  clear hp ho
                  refine StepOk.of_run (v := ?ve8) (w' := X) ?_ ⟨rfl, Below.refl _ _⟩
                  clear hX
                  go_simp
                  all_goals try go_bits
                  all_goals try simp only [IntWalk.iteOmega]
                  all_goals try go_bits
                  all_goals rfl
                · refine step_introK rfl rfl fun ρ X hc hf hgl hX hp ho hu => ?_
                  change StepOk _ { dst := _, op := Op.fieldAddr 113 (Operand.tmp 58) 0, type := _, pos := _, after := _, guard := _ } _ _ _
                  have k58 : ρ (.tmp 58) = ?ve8 := hp 8 (by decide)
                  refine stepK_plain (i := 9) rfl ?_
                  clear hu
                  clear hp ho
                  refine StepOk.of_run (v := ?ve9) (w' := X) ?_ ⟨rfl, Below.refl _ _⟩
                  clear hX
                  go_simp
                  all_goals try go_bits
                  all_goals try simp only [IntWalk.iteOmega]
                  all_goals try go_bits
                  all_goals rfl
                · refine step_introK rfl rfl fun ρ X hc hf hgl hX hp ho hu => ?_
                  change StepOk _ { dst := _, op := Op.load 110 (Operand.tmp 59), type := _, pos := _, after := _, guard := _ } _ _ _
                  have k59 : ρ (.tmp 59) = ?ve9 := hp 9 (by decide)
                  refine stepK_plain (i := 10) rfl ?_
                  clear hu
                  have c4X := hX.but.cell (p := ⟨q, _, none⟩) hnq c4
                  have c0X := hX.but.cell (p := ⟨b, _, none⟩) hnb c0
                  clear hp ho
                  refine StepOk.of_run (v := ?ve10) (w' := X) ?_ ⟨rfl, Below.refl _ _⟩
                  clear hX
                  go_simp
                  all_goals try go_bits
                  all_goals try simp only [IntWalk.iteOmega]
                  all_goals try go_bits
                  all_goals rfl
                · refine step_introK rfl rfl fun ρ X hc hf hgl hX hp ho hu => ?_
                  change StepOk _ { dst := _, op := Op.move (Operand.tmp 2), type := _, pos := _, after := _, guard := _ } _ _ _
                  have k2 : ρ (.tmp 2) = .int .i64 (m : Int) := ho 2 (by decide)
                  refine stepK_plain (i := 11) rfl ?_
                  clear hu
                  clear hp ho
                  refine StepOk.of_run (v := ?ve11) (w' := X) ?_ ⟨rfl, Below.refl _ _⟩
                  clear hX
                  go_simp
                  all_goals try go_bits
                  all_goals try simp only [IntWalk.iteOmega]
                  all_goals try go_bits
                  all_goals rfl
                · refine step_introK rfl rfl fun ρ X hc hf hgl hX hp ho hu => ?_
                  change StepOk _ { dst := _, op := Op.indexAddr 110 (Operand.tmp 60) (Operand.tmp 61), type := _, pos := _, after := _, guard := _ } _ _ _
                  have k60 : ρ (.tmp 60) = ?ve10 := hp 10 (by decide)
                  have k61 : ρ (.tmp 61) = ?ve11 := hp 11 (by decide)
                  refine stepK_plain (i := 12) rfl ?_
                  clear hu
                  clear hp ho
                  refine StepOk.of_run (v := ?ve12) (w' := X) ?_ ⟨rfl, Below.refl _ _⟩
                  clear hX
                  go_simp
                  all_goals try go_bits
                  all_goals try simp only [IntWalk.iteOmega]
                  all_goals try go_bits
                  all_goals rfl
                · refine step_introK rfl rfl fun ρ X hc hf hgl hX hp ho hu => ?_
                  change StepOk _ { dst := _, op := Op.load 106 (Operand.tmp 62), type := _, pos := _, after := _, guard := _ } _ _ _
                  have k62 : ρ (.tmp 62) = ?ve12 := hp 12 (by decide)
                  refine stepK_plain (i := 13) rfl ?_
                  clear hu
                  refine stepOk_loadPart 106 _ rfl g (m * 64) (secC p) _ k62 (fun j u hu => hX.but.cell (p := ⟨g, _, none⟩) hng (HSr.out j u hu)) Tryz.underlying106 rfl (by rw [sizeSec, secC_len1, Hpl.out]) ⟨rfl, Below.refl _ _⟩
                · refine step_introK rfl rfl fun ρ X hc hf hgl hX hp ho hu => ?_
                  change StepOk _ { dst := _, op := Op.build 108 #[(0, Operand.tmp 55), (1, Operand.tmp 56), (2, Operand.tmp 63)], type := _, pos := _, after := _, guard := _ } _ _ _
                  have k55 : ρ (.tmp 55) = ?ve5 := hp 5 (by decide)
                  have k56 : ρ (.tmp 56) = ?ve6 := hp 6 (by decide)
                  have k63 : ρ (.tmp 63) = (.agg (secC p).toArray) := hp 13 (by decide)
                  refine stepK_plain (i := 14) rfl ?_
                  clear hu
                  clear hp ho
                  have hbu := run_build (P := Tryz.prog) X 108 #[(0, nv k), (1, nv m), (2, .agg (secC p).toArray)] _ (builtW ⟨k, m, p⟩ Hpl.out)
                  refine StepOk.of_run (v := .agg (wpC ⟨k, m, p⟩).toArray) (w' := X) ?_ ⟨rfl, Below.refl _ _⟩
                  unfold nv at hbu
                  simp only [execOp, List.map_toArray, List.map_cons, List.map_nil, k55, k56, k63, hbu, Sem.run_bind, Result.andThen_ok, Sem.run_pure]
                · refine step_introK rfl rfl fun ρ X hc hf hgl hX hp ho hu => ?_
                  change StepOk _ { dst := _, op := Op.buildSlice 96 1 #[(0, Operand.tmp 64)], type := _, pos := _, after := _, guard := _ } _ _ _
                  have k64 : ρ (.tmp 64) = (.agg (wpC ⟨k, m, p⟩).toArray) := hp 14 (by decide)
                  refine stepK_plain (i := 15) rfl ?_
                  clear hu
                  clear hp ho
                  have hbs := run_buildSlice1 (P := Tryz.prog) X 96 108 i0 z0 66 (wpC ⟨k, m, p⟩) Tryz.underlying96 hi hz hs2 (wpC_len ⟨k, m, p⟩ Hpl.out) (by omega) (by omega)
                  refine StepOk.of_run (v := .slice (some ⟨X.heap.size, 0, none⟩) 1 1) (w' := X.alloc (.cells (wpC ⟨k, m, p⟩).toArray 108)) ?_ ⟨⟨⟨wpC_len ⟨k, m, p⟩ Hpl.out, .inr ⟨X.heap.size, 1, _, rfl, Nat.zero_le _, heap_alloc_new X _, Nat.le_refl _, by simp [maxLen], by simp [wpC_len ⟨k, m, p⟩ Hpl.out], by rw [List.toList_toArray]; exact List.take_of_length_le (by rw [wpC_len ⟨k, m, p⟩ Hpl.out]; omega)⟩⟩, _, rfl⟩, Grows.alloc' _ _⟩
                  simp only [execOp, List.map_toArray, List.map_cons, List.map_nil, k64, hbs, Sem.run_bind, Result.andThen_ok, Sem.run_pure]
                · refine step_introK rfl rfl fun ρ X hc hf hgl hX hp ho hu => ?_
                  change StepOk _ { dst := _, op := Op.call { callee := Callee.builtin Builtin.append, args := #[Operand.tmp 54, Operand.tmp 65], argTypes := #[96, 96] }, type := _, pos := _, after := _, guard := _ } _ _ _
                  have k54 : ρ (.tmp 54) = ?ve4 := hp 4 (by decide)
                  have k65 := hp 15 (by decide)
                  clear hu
                  clear hp ho
                  refine stepK_made rfl ?_
                  obtain ⟨ho18, g18, e18⟩ := k65
                  rw [e18] at ho18
                  have hoX := hX.spared (nw, xs) (by simp) _ Hown.out
                  obtain ⟨v', W', hr, ho', hgb', hat, hsp⟩ := run_append_x (P := Tryz.prog) X 96 96 108 i0 z0 66 80 Tryz.underlying96 hi hz hs2 hb2 hzs (by omega) _ nw xs hoX ⟨g18, 0, none⟩ 1 1 (wpC ⟨k, m, p⟩) (wpC_len ⟨k, m, p⟩ Hpl.out) (ho18.cells (g := g18) rfl) (wpC_one _) (by have := HnW.out; unfold maxLen; omega) (by have := HnW.out; omega) [(nw, xs), (1, wpC ⟨k, m, p⟩), (nw + 1, xs ++ wpC ⟨k, m, p⟩)] HLL.out
                  refine StepOk.of_run (v := v') (w' := W') ?_ ⟨⟨ho', ?_⟩, ⟨But.grown hgb' (fun j hj => hj), hsp⟩, fun s hs => by simp [noState] at hs⟩
                  · simp only [execOp, resolve, invoke, builtin, Sem.run_bind, Sem.run_pure, Result.andThen_ok, List.map_toArray, List.map_cons, List.map_nil, k54, e18, hr]
                  · rcases hat with h | h
                    · exact .inl h
                    · right; intro j hj; rw [h] at hj; have := Option.some.inj hj; have := hX.but.size; have := Hws.out; omega
                · refine step_introK rfl rfl fun ρ X hc hf hgl hX hp ho hu => ?_
                  change StepOk _ { dst := _, op := Op.nilCheck (Operand.tmp 50), type := _, pos := _, after := _, guard := _ } _ _ _
                  have k50 : ρ (.tmp 50) = ?ve0 := hp 0 (by decide)
                  refine stepK_plain (i := 17) rfl ?_
                  clear hu
                  clear hp ho
                  refine StepOk.of_run (v := ?ve17) (w' := X) ?_ ⟨rfl, Below.refl _ _⟩
                  clear hX
                  go_simp
                  all_goals try go_bits
                  all_goals try simp only [IntWalk.iteOmega]
                  all_goals try go_bits
                  all_goals rfl
                · refine step_introK rfl rfl fun ρ X hc hf hgl hX hp ho hu => ?_
                  change StepOk _ { dst := _, op := Op.fieldAddr 100 (Operand.tmp 67) 4, type := _, pos := _, after := _, guard := _ } _ _ _
                  have k67 : ρ (.tmp 67) = ?ve17 := hp 17 (by decide)
                  refine stepK_plain (i := 18) rfl ?_
                  clear hu
                  clear hp ho
                  refine StepOk.of_run (v := ?ve18) (w' := X) ?_ ⟨rfl, Below.refl _ _⟩
                  clear hX
                  go_simp
                  all_goals try go_bits
                  all_goals try simp only [IntWalk.iteOmega]
                  all_goals try go_bits
                  all_goals rfl
                · exact last_intro rfl
              case grde => rfl
              case rste =>
                intro a0 X hb
                obtain ⟨x65, hx65⟩ : ∃ x, a0.tmps.getD 65 undef = x := ⟨_, rfl⟩
                have p65 := hb.done' 15 65 rfl rfl
                rw [hx65] at p65
                obtain ⟨x66, hx66⟩ : ∃ x, a0.tmps.getD 66 undef = x := ⟨_, rfl⟩
                have p66 := hb.done' 16 66 rfl rfl
                rw [hx66] at p66
                have hfr := hb.frame ((50, ?ve0) :: (51, ?ve1) :: (52, ?ve2) :: (53, ?ve3) :: (54, ?ve4) :: (55, ?ve5) :: (56, ?ve6) :: (57, ?ve7) :: (58, ?ve8) :: (59, ?ve9) :: (60, ?ve10) :: (61, ?ve11) :: (62, ?ve12) :: (63, (.agg (secC p).toArray)) :: (64, (.agg (wpC ⟨k, m, p⟩).toArray)) :: (65, x65) :: (66, x66) :: (67, ?ve17) :: (68, ?ve18) :: []) rfl ⟨hb.done' 0 50 rfl rfl, hb.done' 1 51 rfl rfl, hb.done' 2 52 rfl rfl, hb.done' 3 53 rfl rfl, hb.done' 4 54 rfl rfl, hb.done' 5 55 rfl rfl, hb.done' 6 56 rfl rfl, hb.done' 7 57 rfl rfl, hb.done' 8 58 rfl rfl, hb.done' 9 59 rfl rfl, hb.done' 10 60 rfl rfl, hb.done' 11 61 rfl rfl, hb.done' 12 62 rfl rfl, hb.done' 13 63 rfl rfl, hb.done' 14 64 rfl rfl, hx65, hx66, hb.done' 17 67 rfl rfl, hb.done' 18 68 rfl rfl, trivial⟩
                simp only [updL, ↓reduceIte, Nat.reduceEqDiff, Nat.reduceAdd, Nat.zero_add] at hfr
                have HX := Lib.hid hb.ext
                clear hb
                subst hfr
                change StepOk _ { dst := _, op := Op.store 96 (Operand.tmp 68) (Operand.tmp 66), type := _, pos := _, after := _, guard := _ } _ _ _
                have hrX := HX.out.but.blockEq hnq HR2.out.row
                have cX := HX.out.but.cell (p := ⟨q, 4, none⟩) hnq c4
                have fX : X.frozen? ⟨q, 4, none⟩ = false := frozen_of_row X q 4 _ _ hrX
                obtain ⟨po', pa⟩ := (show X.ownsRow 0 108 66 x66 (nw + 1) (xs ++ wpC ⟨k, m, p⟩) ∧ (x66.ownBlock = Value.ownBlock (.slice aw nw cw) ∨ ∀ j, x66.ownBlock = some j → ws ≤ j) from p66)
                obtain ⟨a6, c6, rfl⟩ := own_form po'
                have hadd := HR2.out.pushW ⟨k, m, p⟩ (.slice a6 (nw + 1) c6) (by show But (fun k => x.vp.ownBlock = some k) _ _; rw [Hvw.out]; exact HX.out.but) (by show World.ownsRow _ _ _ _ _ (x.pend.length + 1) (x.pend.flatMap wpC ++ _); rw [HnW2.out, Hxs.out]; exact po') (by show _ = x.vp.ownBlock ∨ _; rw [Hvw.out, Hws.out]; exact pa) Hwf.out HnW3.out
                have HA := Lib.hid hadd
                clear hadd po' pa p66
                unfold StepOk
                simp [go_sem, execOp, cX, fX]
                go_wp2
                go_ret
                refine ⟨by rw [Hr.out]; rfl, _, HA.out.1, ?_, HT9.out.trans HA.out.2⟩
                rw [Hr.out]
                show ({ ((beginX x).setF { f with now := f.now.set m p }).s with pend := _ } : Ps) = _
                rw [setF_s, ← Hfn.out]
                rfl
          · have Hr : Hid (writeP x.s nm n p = (2, (beginX x).s)) := by show _ = _; rw [Hs.out, if_neg (by omega), if_pos h3]
            have h3I : ((pl : Int) == 64) = false := by simp; omega
            go_enter Tryz.func76, Tryz.ntmps76
            go_wp2_with fail
            refine HB.out.mono ?_
            rintro e w1 ⟨rfl, hP, hT⟩
            have HP := Lib.hid hP
            have HT := Lib.hid hT
            have hfo := hP.files.ok f Hfi.out
            have Hfo := Lib.hid hfo
            obtain ⟨a, c, a', c', e1, e2, d0, d1⟩ := fi_form hfo
            have hlk := hP.look Hfi.out
            rw [Hfn.out, Hb.out] at hlk
            have Hlk1 := Lib.hid hlk
            have HM1 := Lib.hid hP.files.map
            have Hok1 := Lib.hid hP.okF
            have c2 := hP.cell 2 (mv (beginX x).fm) rfl
            have cr := hP.cell 0 (nv (beginX x).room) rfl
            obtain ⟨fm, Hfm⟩ : ∃ y, Hid ((beginX x).fm = y) := ⟨_, rfl⟩
            rw [Hfm.out] at c2 HM1
            rw [HL.out] at e1 e2 d0 d1
            rw [Hb.out] at d0 d1
            unfold mv at c2
            unfold nv at cr
            have E1 := Lib.hid e1
            have E2 := Lib.hid e2
            clear hP hT hfo hlk e1 e2
            go_wp2_with (at_lookup; refine wpList_lookA rfl _ _ 95 109 false rfl HM1.out keyF Hok1.out Tryz.underlying95 _ (zeroFile _) k Hokp.out rfl rfl (.pointer (some ⟨b, 0, none⟩)) (by rw [Hlk1.out]; rfl) ?_)
            go_ret
            exact ⟨by rw [Hr.out]; rfl, beginX x, HP.out, by rw [Hr.out], HT.out⟩
  · have Hr : Hid (writeP x.s nm n p = beginP x.s) := guardP_no hf
    have hr : bwR x nm = .tuple #[.int .i64 0, .int .i64 (beginP x.s).1] := by unfold bwR; rw [if_neg hf]
    rw [hr] at HB
    obtain ⟨fc, Hfc⟩ : ∃ y, Hid ((beginP x.s).1 = y) := ⟨_, rfl⟩
    rw [Hfc.out] at HB hf
    have hne : (fc == 0) = false := by simpa using hf
    clear h hn hf hr hnI hp hout hsm
    go_enter Tryz.func76, Tryz.ntmps76
    go_wp2_with fail
    refine HB.out.mono ?_
    rintro e w1 ⟨rfl, hP, hT⟩
    have HP := Lib.hid hP
    have HT := Lib.hid hT
    clear hP hT
    go_wp2
    go_ret
    exact ⟨by rw [Hr.out, Hfc.out]; rfl, beginX x, HP.out, by rw [Hr.out, beginX_s], HT.out⟩
end Go.Proofs.YtoppcpiheaedlaaGreatDoor
