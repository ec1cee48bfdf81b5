import Derived.Test.YtoppcpiheaedlaaGreatDoorMB18
import Derived.Test.YtoppcpiheaedlaaGreatDoorMB11
section
/-
  The document's own disk: Names.
-/
namespace Go.Proofs.YtoppcpiheaedlaaGreatDoor
open Go.RowKit
set_option linter.unusedVariables false
set_option linter.unusedSimpArgs false
attribute [local go_sem] sv nv
def bstep (out : List Nm) (b nm : Nm) : Nm := if nm ∈ out then b else if b = [] ∨ Op.bytesLess nm b = true then nm else b
def bestF (l : List Nm) (out : List Nm) (i : Nat) : Nm := (l.take i).foldl (bstep out) []
theorem bestF_succ (l out : List Nm) (i : Nat) (hi : i < l.length) : bestF l out (i + 1) = bstep out (bestF l out i) (l[i]) := by
 unfold bestF
 rw [List.take_succ_eq_append_getElem hi, List.foldl_append]
 rfl
def outs (l : List Nm) : Nat → List Nm
 | 0 => []
 | j + 1 => outs l j ++ [bestF l (outs l j) l.length]
theorem outs_len (l : List Nm) : ∀ j, (outs l j).length = j
 | 0 => rfl
 | j + 1 => by unfold outs; rw [List.length_append, outs_len l j]; rfl
theorem infoSt : (Tryz.prog.info? 9).map (fun i => (i.zero, i.size, i.bytes)) = some (some (.string ⟨#[]⟩), 1, 16) := by kernel_rfl
theorem infoSt_parts : ∃ i z, Tryz.prog.info? 9 = some i ∧ i.zero = some z ∧ i.size = 1 ∧ i.bytes = 16 ∧ z.cells.size = 1 := by
 have h := infoSt
 cases hi : Tryz.prog.info? 9 with
 | none => rw [hi] at h; simp at h
 | some i =>
  rw [hi] at h
  simp only [Option.map_some, Option.some.injEq, Prod.mk.injEq] at h
  exact ⟨i, _, rfl, h.1, h.2.1, h.2.2, rfl⟩
theorem take_notmem (l : List Nm) (k : Nat) (hk : k < l.length) (nm : Nm) : decide (nm ∉ l.take (k + 1)) = (decide (nm ∉ l.take k) && !(decide (l[k] = nm))) := by
 rw [List.take_succ_eq_append_getElem hk]
 by_cases h1 : nm ∈ l.take k
 · rw [decide_eq_false (p := ¬ nm ∈ l.take k ++ [l[k]]) (fun h => h (List.mem_append_left _ h1)), decide_eq_false (p := ¬ nm ∈ l.take k) (fun h => h h1)]; rfl
 · by_cases h2 : l[k] = nm
   · rw [decide_eq_false (p := ¬ nm ∈ l.take k ++ [l[k]]) (fun h => h (List.mem_append_right _ (List.mem_singleton.2 h2.symm))), decide_eq_true h2, Bool.not_true, Bool.and_false]
   · rw [decide_eq_true (p := ¬ nm ∈ l.take k ++ [l[k]]) (fun h => (List.mem_append.1 h).elim h1 (fun h => h2 (List.mem_singleton.1 h).symm)), decide_eq_true (p := ¬ nm ∈ l.take k) h1, decide_eq_false h2]; rfl
def lenV : Value → Nat | .slice _ n _ => n | _ => 0
set_option maxRecDepth 100000 in
set_option maxHeartbeats 4000000 in
theorem refNames (q : Nat) (s : Ds) (x : RDv) (w : World) (h : RD w q s x) :
 Calls Tryz.prog 50 #[.pointer (some ⟨q, 0, none⟩)] w fun e w' => ∃ v, e = .returned v ∧ w'.ownsRow 0 9 1 v (nowF s).length ((outs ((nowF s).map (·.1)) (nowF s).length).map sv) ∧ Grows w w' := by
 have hmx : Tryz.prog.follows .mixedOrders = true := by kernel_rfl
 obtain ⟨i0, z0, hi, hz, hs2, hb2, hzs⟩ := infoSt_parts
 have HN := Lib.hid h.now
 have hlen := nowF_len h
 obtain ⟨d, Hd⟩ : ∃ d, Hid (nowF s = d) := ⟨_, rfl⟩
 rw [Hd.out] at HN hlen ⊢
 clear h
 obtain ⟨N, HNn⟩ : ∃ N : List Nm, Hid (d.map (·.1) = N) := ⟨_, rfl⟩
 have HNl : Hid (N.length = d.length) := by show _ = _; rw [← HNn.out, List.length_map]
 rw [HNn.out]
 go_enter Tryz.func50, Tryz.ntmps50
 go_wp2_with fail
 refine HN.out.mono ?_
 rintro e w1 ⟨v, rfl, hE, hG⟩
 obtain ⟨a, cap, rfl⟩ := own_form hE
 have HE := Lib.hid hE
 have HG := Lib.hid hG
 obtain ⟨n, Hn⟩ : ∃ n, Hid (d.length = n) := ⟨_, rfl⟩
 rw [Hn.out] at hlen ⊢
 have hnI : (n : Int) ≤ 2000000 := by omega
 clear hE hG hlen HN
 go_wp2
 go_loopw [4] (fun t4 wr => ∃ j : Nat, j ≤ n ∧ lenV t4 = j ∧ Hid (wr.ownsRow 0 9 1 t4 j ((outs N j).map sv)) ∧ Hid (∀ k, t4.ownBlock = some k → w1.heap.size ≤ k) ∧ Hid (Grows w1 wr)) (fun t4 _ => n - lenV t4)
 case atStart => exact ⟨0, by omega, rfl, World.ownsRow_nil _ _ _ _, fun k hk => by simp [Value.ownBlock] at hk, Below.refl _ _⟩
 case round =>
  obtain ⟨j, hjn, hlv, HO, HOb, HGr⟩ := hrel
  obtain ⟨a4, c4, rfl⟩ := own_form HO.out
  clear hlv
  by_cases hlt : j < n
  · have hltI : (j : Int) < (n : Int) := by omega
    have Hj := Lib.hid hlt
    obtain ⟨out, Hout⟩ : ∃ o, Hid (outs N j = o) := ⟨_, rfl⟩
    have Hol : Hid (out.length = j) := by show _ = _; rw [← Hout.out, outs_len]
    have HO' : Hid (wr.ownsRow 0 9 1 (.slice a4 j c4) j (out.map sv)) := by show World.ownsRow _ _ _ _ _ _ _; rw [← Hout.out]; exact HO.out
    clear hlt hjn
    go_wp2
    go_loopw [5, 6] (fun t5 t6 wy => ∃ i : Nat, i ≤ n ∧ t6 = .int .i64 i ∧ t5 = .string ⟨(bestF N out i).toArray⟩ ∧ Hid (wy.ownsRow 0 9 1 (.slice a4 j c4) j (out.map sv)) ∧ Hid (Grows w1 wy)) (fun _ t6 _ => n - (intOf t6).toNat)
    case atStart => exact ⟨0, by omega, rfl, rfl, HO'.out, HGr.out⟩
    case round =>
     obtain ⟨i, hin, rfl, rfl, HO2, HG2⟩ := hrel
     clear HO HO' HGr
     obtain ⟨b, Hb⟩ : ∃ b, Hid (bestF N out i = b) := ⟨_, rfl⟩
     rw [Hb.out]
     by_cases hli : i < n
     · have hliI : (i : Int) < (n : Int) := by omega
       have hbi : ¬ ((n : Int) ≤ (i : Int)) := by omega
       have hi1 : i < d.length := by rw [Hn.out]; exact hli
       have hi2 : i < N.length := by rw [HNl.out]; exact hi1
       have Hi := Lib.hid hli
       obtain ⟨g, cap', e1⟩ := own_some HE.out (by omega)
       simp only [Value.slice.injEq] at e1
       obtain ⟨rfl, -, rfl⟩ := e1
       have cni := HE.out.name i hi1
       have hnm : (d[i]).1 = N[i] := by simp only [← HNn.out, List.getElem_map]
       have hst := bestF_succ N out i hi2
       obtain ⟨nm, hnme⟩ : ∃ y, N[i] = y := ⟨_, rfl⟩
       rw [hnm, hnme] at cni
       rw [hnme, Hb.out] at hst
       have Hst := Lib.hid hst
       unfold sv at cni
       have Hcni := Lib.hid cni
       clear cni hst hnm hnme hi1 hi2 hli hin
       go_wp2
       go_loopw [7, 8] (fun t7 t8 wx => ∃ k : Nat, k ≤ j ∧ t8 = .int .i64 k ∧ t7 = .bool (decide (nm ∉ out.take k)) ∧ Hid (wx.ownsRow 0 9 1 (.slice a4 j c4) j (out.map sv)) ∧ Hid (Grows w1 wx)) (fun _ t8 _ => j - (intOf t8).toNat)
       case atStart => exact ⟨0, by omega, rfl, by simp, HO2.out, HG2.out⟩
       case round =>
        obtain ⟨k, hkj, rfl, rfl, HO3, HG3⟩ := hrel
        clear HO2 HG2
        have cni := HG3.out.cell' Hcni.out
        obtain ⟨fr, hfr⟩ : ∃ y, decide (nm ∉ out.take k) = y := ⟨_, rfl⟩
        by_cases hlk : k < j
        · have hlkI : (k : Int) < (j : Int) := by omega
          have hbk : ¬ ((j : Int) ≤ (k : Int)) := by omega
          have hk1 : k < out.length := by rw [Hol.out]; exact hlk
          have Hk := Lib.hid hlk
          have hst := take_notmem out k hk1 nm
          obtain ⟨g4, k4, e4⟩ := own_some HO3.out (by omega)
          have cok := own_cell (by have := HO3.out; rw [e4] at this; exact this) k (sv (out[k])) (by rw [List.getElem?_map, List.getElem?_eq_getElem hk1]; rfl)
          have e5 : a4 = some ⟨g4, 0, none⟩ ∧ c4 = k4 := by have e6 := e4; simp only [Value.slice.injEq] at e6; exact ⟨e6.1, e6.2.2⟩
          obtain ⟨rfl, rfl⟩ := e5
          obtain ⟨ok, hok⟩ : ∃ y, out[k] = y := ⟨_, rfl⟩
          rw [hok, hfr] at hst
          rw [hok] at cok
          have hseq := str_eq ok nm
          have Hst2 := Lib.hid hst
          unfold sv at cok
          rw [hfr]
          clear hst hok hk1 e4 hlk hkj hfr
          cases fr with
          | true =>
           by_cases he : ok = nm
           · rw [decide_eq_true he] at hseq
             have Hst3 : Hid (decide (nm ∉ out.take (k + 1)) = false) := by show _ = _; rw [Hst2.out, decide_eq_true he]; rfl
             clear he
             go_wp2
             have cXa := fun X (hX : Grows _ X) => And.intro (Grows.cell' hX cok) (Grows.cell' hX cni)
             refine specs_region
              #[[], [0], [0, 1], [0, 1], [0, 1, 2, 3], [0, 1, 2, 3, 4], [0, 1], [0, 1], [0, 1, 6, 7], [0, 1, 6, 7, 8], [0, 1, 6, 7, 8, 9], [0, 1, 2, 3, 4, 5, 6, 7, 8, 9, 10], [0, 1, 2, 3, 4, 5, 6, 7, 8, 9, 10, 11], [0, 1, 2, 3, 4, 5, 6, 7, 8, 9, 10, 11, 12]] #[[7], [], [4], [8], [], [], [3], [6], [], [], [], [], [], []] #[true, true, true, true, true, true, true, true, true, true, true, true, true, true]
              ((.val ?va0) :: (.val ?va1) :: (.val ?va2) :: (.val ?va3) :: (.val ?va4) :: (.val ?va5) :: (.val ?va6) :: (.val ?va7) :: (.val ?va8) :: (.val ?va9) :: (.val ?va10) :: (.val ?va11) :: (.val ?va12) :: (.val ?va13) :: []).toArray
              hmx ?chka ?grda ?stpa ?rsta
             case chka => rfl
             case stpa =>
              refine ⟨?_, ?_, ?_, ?_, ?_, ?_, ?_, ?_, ?_, ?_, ?_, ?_, ?_, ?_, trivial⟩
              · refine stepO 7 ?va0 rfl (fun _ _ => rfl) rfl (fun _ => rfl) (by decide) ?_; show (.bool true : Value) = _; rfl
              · refine stepP 30 0 (?va0) ?va1 rfl (fun _ _ => rfl) rfl (fun _ => rfl) (by decide) rfl (fun _ _ h => h) ?_; rfl
              · refine stepO 4 ?va2 rfl (fun _ _ => rfl) rfl (fun _ => rfl) (by decide) ?_; show (.slice (some ⟨g4, 0, none⟩) j c4 : Value) = _; rfl
              · refine stepO 8 ?va3 rfl (fun _ _ => rfl) rfl (fun _ => rfl) (by decide) ?_; show (.int .i64 (k : Int) : Value) = _; rfl
              · refine stepR (o := ⟨_, .indexAddr 58 (.tmp 32) (.tmp 33), _, _, _, _⟩) ?va4 rfl rfl (fun _ => rfl) fun ρ X hc hf hgl hX hp ho => ?_; have k32 : ρ (.tmp 32) = ?va2 := hp 2 (by decide); have k33 : ρ (.tmp 33) = ?va3 := hp 3 (by decide); clear hp ho hX; go_simp; (all_goals try go_bits); (all_goals try simp only [IntWalk.iteOmega]); (all_goals try go_bits); (all_goals rfl)
              · refine stepR (o := ⟨_, .load 9 (.tmp 34), _, _, _, _⟩) ?va5 rfl rfl (fun _ => rfl) fun ρ X hc hf hgl hX hp ho => ?_; have k34 : ρ (.tmp 34) = ?va4 := hp 4 (by decide); have cX := cXa X hX; clear hp ho hX; go_simp; (all_goals rfl)
              · refine stepO 3 ?va6 rfl (fun _ _ => rfl) rfl (fun _ => rfl) (by decide) ?_; show (.slice (some ⟨g, 0, none⟩) n cap : Value) = _; rfl
              · refine stepO 6 ?va7 rfl (fun _ _ => rfl) rfl (fun _ => rfl) (by decide) ?_; show (.int .i64 (i : Int) : Value) = _; rfl
              · refine stepR (o := ⟨_, .indexAddr 71 (.tmp 36) (.tmp 37), _, _, _, _⟩) ?va8 rfl rfl (fun _ => rfl) fun ρ X hc hf hgl hX hp ho => ?_; have k36 : ρ (.tmp 36) = ?va6 := hp 6 (by decide); have k37 : ρ (.tmp 37) = ?va7 := hp 7 (by decide); clear hp ho hX; go_simp; (all_goals try go_bits); (all_goals try simp only [IntWalk.iteOmega]); (all_goals try go_bits); (all_goals rfl)
              · refine stepR (o := ⟨_, .fieldAddr 134 (.tmp 38) 0, _, _, _, _⟩) ?va9 rfl rfl (fun _ => rfl) fun ρ X hc hf hgl hX hp ho => ?_; have k38 : ρ (.tmp 38) = ?va8 := hp 8 (by decide); clear hp ho hX; go_simp; (all_goals rfl)
              · refine stepR (o := ⟨_, .load 9 (.tmp 39), _, _, _, _⟩) ?va10 rfl rfl (fun _ => rfl) fun ρ X hc hf hgl hX hp ho => ?_; have k39 : ρ (.tmp 39) = ?va9 := hp 9 (by decide); have cX := cXa X hX; clear hp ho hX; go_simp; (all_goals rfl)
              · refine stepR (o := ⟨_, .binOp .neq 9 (.tmp 35) (.tmp 40) 9, _, _, _, _⟩) ?va11 rfl rfl (fun _ => rfl) fun ρ X hc hf hgl hX hp ho => ?_; have k35 : ρ (.tmp 35) = ?va5 := hp 5 (by decide); have k40 : ρ (.tmp 40) = ?va10 := hp 10 (by decide); clear hp ho hX; go_simp; (all_goals try go_bits); (all_goals try simp only [IntWalk.iteOmega]); (all_goals try go_bits); (all_goals rfl)
              · refine stepR (o := ⟨_, .pick (.tmp 31) (.tmp 41) (.const (.bool false)), _, _, _, _⟩) ?va12 rfl rfl (fun _ => rfl) fun ρ X hc hf hgl hX hp ho => ?_; have k31 : ρ (.tmp 31) = ?va1 := hp 1 (by decide); have k41 : ρ (.tmp 41) = ?va11 := hp 11 (by decide); clear hp ho hX; go_simp; (all_goals rfl)
              · refine stepP 42 12 (?va12) ?va13 rfl (fun _ _ => rfl) rfl (fun _ => rfl) (by decide) rfl (fun _ _ h => h) ?_; rfl
             case grda => rfl
             case rsta =>
              intro a0 X hb
              have hfr := hb.frame ((7, ?va13) :: (30, ?va0) :: (31, ?va1) :: (32, ?va2) :: (33, ?va3) :: (34, ?va4) :: (35, ?va5) :: (36, ?va6) :: (37, ?va7) :: (38, ?va8) :: (39, ?va9) :: (40, ?va10) :: (41, ?va11) :: (42, ?va12) :: []) rfl ⟨hb.done' 13 7 rfl rfl, hb.done' 0 30 rfl rfl, hb.done' 1 31 rfl rfl, hb.done' 2 32 rfl rfl, hb.done' 3 33 rfl rfl, hb.done' 4 34 rfl rfl, hb.done' 5 35 rfl rfl, hb.done' 6 36 rfl rfl, hb.done' 7 37 rfl rfl, hb.done' 8 38 rfl rfl, hb.done' 9 39 rfl rfl, hb.done' 10 40 rfl rfl, hb.done' 11 41 rfl rfl, hb.done' 12 42 rfl rfl, trivial⟩
              simp only [updL, ↓reduceIte, Nat.reduceEqDiff, Nat.reduceAdd, Nat.zero_add] at hfr
              have HX := Lib.hid hb.ext
              clear hb cXa
              subst hfr
              have HGm := Lib.hid (Grows.trans' HG3.out HX.out)
              have HOm := Lib.hid (own_grows HO3.out HX.out)
              clear HX cok cni
              go_wp2
              go_roundw
              case rel => exact ⟨k + 1, Hk.out, by simp, by rw [Hst3.out], HOm.out, HGm.out⟩
              case measure => have := Hk.out; simp [intOf]; omega
           · rw [decide_eq_false he] at hseq
             have Hst3 : Hid (decide (nm ∉ out.take (k + 1)) = true) := by show _ = _; rw [Hst2.out, decide_eq_false he]; rfl
             clear he
             go_wp2
             have cXb := fun X (hX : Grows _ X) => And.intro (Grows.cell' hX cok) (Grows.cell' hX cni)
             refine specs_region
              #[[], [0], [0, 1], [0, 1], [0, 1, 2, 3], [0, 1, 2, 3, 4], [0, 1], [0, 1], [0, 1, 6, 7], [0, 1, 6, 7, 8], [0, 1, 6, 7, 8, 9], [0, 1, 2, 3, 4, 5, 6, 7, 8, 9, 10], [0, 1, 2, 3, 4, 5, 6, 7, 8, 9, 10, 11], [0, 1, 2, 3, 4, 5, 6, 7, 8, 9, 10, 11, 12]] #[[7], [], [4], [8], [], [], [3], [6], [], [], [], [], [], []] #[true, true, true, true, true, true, true, true, true, true, true, true, true, true]
              ((.val ?vb0) :: (.val ?vb1) :: (.val ?vb2) :: (.val ?vb3) :: (.val ?vb4) :: (.val ?vb5) :: (.val ?vb6) :: (.val ?vb7) :: (.val ?vb8) :: (.val ?vb9) :: (.val ?vb10) :: (.val ?vb11) :: (.val ?vb12) :: (.val ?vb13) :: []).toArray
              hmx ?chkb ?grdb ?stpb ?rstb
             case chkb => rfl
             case stpb =>
              refine ⟨?_, ?_, ?_, ?_, ?_, ?_, ?_, ?_, ?_, ?_, ?_, ?_, ?_, ?_, trivial⟩
              · refine stepO 7 ?vb0 rfl (fun _ _ => rfl) rfl (fun _ => rfl) (by decide) ?_; show (.bool true : Value) = _; rfl
              · refine stepP 30 0 (?vb0) ?vb1 rfl (fun _ _ => rfl) rfl (fun _ => rfl) (by decide) rfl (fun _ _ h => h) ?_; rfl
              · refine stepO 4 ?vb2 rfl (fun _ _ => rfl) rfl (fun _ => rfl) (by decide) ?_; show (.slice (some ⟨g4, 0, none⟩) j c4 : Value) = _; rfl
              · refine stepO 8 ?vb3 rfl (fun _ _ => rfl) rfl (fun _ => rfl) (by decide) ?_; show (.int .i64 (k : Int) : Value) = _; rfl
              · refine stepR (o := ⟨_, .indexAddr 58 (.tmp 32) (.tmp 33), _, _, _, _⟩) ?vb4 rfl rfl (fun _ => rfl) fun ρ X hc hf hgl hX hp ho => ?_; have k32 : ρ (.tmp 32) = ?vb2 := hp 2 (by decide); have k33 : ρ (.tmp 33) = ?vb3 := hp 3 (by decide); clear hp ho hX; go_simp; (all_goals try go_bits); (all_goals try simp only [IntWalk.iteOmega]); (all_goals try go_bits); (all_goals rfl)
              · refine stepR (o := ⟨_, .load 9 (.tmp 34), _, _, _, _⟩) ?vb5 rfl rfl (fun _ => rfl) fun ρ X hc hf hgl hX hp ho => ?_; have k34 : ρ (.tmp 34) = ?vb4 := hp 4 (by decide); have cX := cXb X hX; clear hp ho hX; go_simp; (all_goals rfl)
              · refine stepO 3 ?vb6 rfl (fun _ _ => rfl) rfl (fun _ => rfl) (by decide) ?_; show (.slice (some ⟨g, 0, none⟩) n cap : Value) = _; rfl
              · refine stepO 6 ?vb7 rfl (fun _ _ => rfl) rfl (fun _ => rfl) (by decide) ?_; show (.int .i64 (i : Int) : Value) = _; rfl
              · refine stepR (o := ⟨_, .indexAddr 71 (.tmp 36) (.tmp 37), _, _, _, _⟩) ?vb8 rfl rfl (fun _ => rfl) fun ρ X hc hf hgl hX hp ho => ?_; have k36 : ρ (.tmp 36) = ?vb6 := hp 6 (by decide); have k37 : ρ (.tmp 37) = ?vb7 := hp 7 (by decide); clear hp ho hX; go_simp; (all_goals try go_bits); (all_goals try simp only [IntWalk.iteOmega]); (all_goals try go_bits); (all_goals rfl)
              · refine stepR (o := ⟨_, .fieldAddr 134 (.tmp 38) 0, _, _, _, _⟩) ?vb9 rfl rfl (fun _ => rfl) fun ρ X hc hf hgl hX hp ho => ?_; have k38 : ρ (.tmp 38) = ?vb8 := hp 8 (by decide); clear hp ho hX; go_simp; (all_goals rfl)
              · refine stepR (o := ⟨_, .load 9 (.tmp 39), _, _, _, _⟩) ?vb10 rfl rfl (fun _ => rfl) fun ρ X hc hf hgl hX hp ho => ?_; have k39 : ρ (.tmp 39) = ?vb9 := hp 9 (by decide); have cX := cXb X hX; clear hp ho hX; go_simp; (all_goals rfl)
              · refine stepR (o := ⟨_, .binOp .neq 9 (.tmp 35) (.tmp 40) 9, _, _, _, _⟩) ?vb11 rfl rfl (fun _ => rfl) fun ρ X hc hf hgl hX hp ho => ?_; have k35 : ρ (.tmp 35) = ?vb5 := hp 5 (by decide); have k40 : ρ (.tmp 40) = ?vb10 := hp 10 (by decide); clear hp ho hX; go_simp; (all_goals try go_bits); (all_goals try simp only [IntWalk.iteOmega]); (all_goals try go_bits); (all_goals rfl)
              · refine stepR (o := ⟨_, .pick (.tmp 31) (.tmp 41) (.const (.bool false)), _, _, _, _⟩) ?vb12 rfl rfl (fun _ => rfl) fun ρ X hc hf hgl hX hp ho => ?_; have k31 : ρ (.tmp 31) = ?vb1 := hp 1 (by decide); have k41 : ρ (.tmp 41) = ?vb11 := hp 11 (by decide); clear hp ho hX; go_simp; (all_goals rfl)
              · refine stepP 42 12 (?vb12) ?vb13 rfl (fun _ _ => rfl) rfl (fun _ => rfl) (by decide) rfl (fun _ _ h => h) ?_; rfl
             case grdb => rfl
             case rstb =>
              intro a0 X hb
              have hfr := hb.frame ((7, ?vb13) :: (30, ?vb0) :: (31, ?vb1) :: (32, ?vb2) :: (33, ?vb3) :: (34, ?vb4) :: (35, ?vb5) :: (36, ?vb6) :: (37, ?vb7) :: (38, ?vb8) :: (39, ?vb9) :: (40, ?vb10) :: (41, ?vb11) :: (42, ?vb12) :: []) rfl ⟨hb.done' 13 7 rfl rfl, hb.done' 0 30 rfl rfl, hb.done' 1 31 rfl rfl, hb.done' 2 32 rfl rfl, hb.done' 3 33 rfl rfl, hb.done' 4 34 rfl rfl, hb.done' 5 35 rfl rfl, hb.done' 6 36 rfl rfl, hb.done' 7 37 rfl rfl, hb.done' 8 38 rfl rfl, hb.done' 9 39 rfl rfl, hb.done' 10 40 rfl rfl, hb.done' 11 41 rfl rfl, hb.done' 12 42 rfl rfl, trivial⟩
              simp only [updL, ↓reduceIte, Nat.reduceEqDiff, Nat.reduceAdd, Nat.zero_add] at hfr
              have HX := Lib.hid hb.ext
              clear hb cXb
              subst hfr
              have HGm := Lib.hid (Grows.trans' HG3.out HX.out)
              have HOm := Lib.hid (own_grows HO3.out HX.out)
              clear HX cok cni
              go_wp2
              go_roundw
              case rel => exact ⟨k + 1, Hk.out, by simp, by rw [Hst3.out], HOm.out, HGm.out⟩
              case measure => have := Hk.out; simp [intOf]; omega
          | false =>
           have Hst3 : Hid (decide (nm ∉ out.take (k + 1)) = false) := by show _ = _; rw [Hst2.out]; rfl
           go_wp2
           refine specs_region
            #[[], [0], [0, 1], [0, 1], [0, 1, 2, 3], [0, 1, 2, 3, 4], [0, 1], [0, 1], [0, 1, 6, 7], [0, 1, 6, 7, 8], [0, 1, 6, 7, 8, 9], [0, 1, 2, 3, 4, 5, 6, 7, 8, 9, 10], [0, 1, 2, 3, 4, 5, 6, 7, 8, 9, 10, 11], [0, 1, 2, 3, 4, 5, 6, 7, 8, 9, 10, 11, 12]] #[[7], [], [4], [8], [], [], [3], [6], [], [], [], [], [], []] #[true, true, false, false, false, false, false, false, false, false, false, false, true, true]
            ((.val ?vc0) :: (.val ?vc1) :: (.val undef) :: (.val undef) :: (.val undef) :: (.val undef) :: (.val undef) :: (.val undef) :: (.val undef) :: (.val undef) :: (.val undef) :: (.val undef) :: (.val ?vc12) :: (.val ?vc13) :: []).toArray
            hmx ?chkc ?grdc ?stpc ?rstc
           case chkc => rfl
           case stpc =>
            refine ⟨?_, ?_, ?_, ?_, ?_, ?_, ?_, ?_, ?_, ?_, ?_, ?_, ?_, ?_, trivial⟩
            · refine stepO 7 ?vc0 rfl (fun _ _ => rfl) rfl (fun _ => rfl) (by decide) ?_; show (.bool false : Value) = _; rfl
            · refine stepP 30 0 (?vc0) ?vc1 rfl (fun _ _ => rfl) rfl (fun _ => rfl) (by decide) rfl (fun _ _ h => h) ?_; rfl
            · exact step_skip rfl rfl (fun _ _ => rfl)
            · exact step_skip rfl rfl (fun _ _ => rfl)
            · exact step_skip rfl rfl (fun _ _ => rfl)
            · exact step_skip rfl rfl (fun _ _ => rfl)
            · exact step_skip rfl rfl (fun _ _ => rfl)
            · exact step_skip rfl rfl (fun _ _ => rfl)
            · exact step_skip rfl rfl (fun _ _ => rfl)
            · exact step_skip rfl rfl (fun _ _ => rfl)
            · exact step_skip rfl rfl (fun _ _ => rfl)
            · exact step_skip rfl rfl (fun _ _ => rfl)
            · refine stepR (o := ⟨_, .pick (.tmp 31) (.tmp 41) (.const (.bool false)), _, _, _, _⟩) ?vc12 rfl rfl (fun _ => rfl) fun ρ X hc hf hgl hX hp ho => ?_; have k31 : ρ (.tmp 31) = ?vc1 := hp 1 (by decide); have k41 : ρ (.tmp 41) = undef := hp 11 (by decide); clear hp ho hX; go_simp; (all_goals rfl)
            · refine stepP 42 12 (?vc12) ?vc13 rfl (fun _ _ => rfl) rfl (fun _ => rfl) (by decide) rfl (fun _ _ h => h) ?_; rfl
           case grdc => rfl
           case rstc =>
            intro a0 X hb
            have hfr := hb.frame ((7, ?vc13) :: (30, ?vc0) :: (31, ?vc1) :: (32, undef) :: (33, undef) :: (34, undef) :: (35, undef) :: (36, undef) :: (37, undef) :: (38, undef) :: (39, undef) :: (40, undef) :: (41, undef) :: (42, ?vc12) :: []) rfl ⟨hb.done' 13 7 rfl rfl, hb.done' 0 30 rfl rfl, hb.done' 1 31 rfl rfl, hb.done' 2 32 rfl rfl, hb.done' 3 33 rfl rfl, hb.done' 4 34 rfl rfl, hb.done' 5 35 rfl rfl, hb.done' 6 36 rfl rfl, hb.done' 7 37 rfl rfl, hb.done' 8 38 rfl rfl, hb.done' 9 39 rfl rfl, hb.done' 10 40 rfl rfl, hb.done' 11 41 rfl rfl, hb.done' 12 42 rfl rfl, trivial⟩
            simp only [updL, ↓reduceIte, Nat.reduceEqDiff, Nat.reduceAdd, Nat.zero_add] at hfr
            have HX := Lib.hid hb.ext
            clear hb
            subst hfr
            have HGm := Lib.hid (Grows.trans' HG3.out HX.out)
            have HOm := Lib.hid (own_grows HO3.out HX.out)
            clear HX cok cni
            go_wp2
            go_roundw
            case rel => exact ⟨k + 1, Hk.out, by simp, by rw [Hst3.out], HOm.out, HGm.out⟩
            case measure => have := Hk.out; simp [intOf]; omega
        · have hlkI : ¬ (k : Int) < (j : Int) := by omega
          have hall : out.take k = out := List.take_of_length_le (by rw [Hol.out]; omega)
          rw [hall] at hfr
          rw [hall, hfr]
          have h1 := str_eq b []
          cases fr with
          | false =>
           have hm : nm ∈ out := by simpa using hfr
           have Hs2 : Hid (bestF N out (i + 1) = b) := by show _ = _; rw [Hst.out]; unfold bstep; rw [if_pos hm]
           clear hall hfr hm hlk hkj
           go_wp2
           go_roundw
           case rel => exact ⟨i + 1, Hi.out, by simp, by rw [Hs2.out], HO3.out, HG3.out⟩
           case measure => have := Hi.out; simp [intOf]; omega
          | true =>
           have hm : ¬ nm ∈ out := by simpa using hfr
           by_cases hb0 : b = []
           · have Hs2 : Hid (bestF N out (i + 1) = nm) := by show _ = _; rw [Hst.out]; unfold bstep; rw [if_neg hm, if_pos (.inl hb0)]
             rw [decide_eq_true hb0] at h1
             clear hall hfr hm hlk hkj hb0
             go_wp2
             go_roundw
             case rel => exact ⟨i + 1, Hi.out, by simp, by rw [Hs2.out], HO3.out, HG3.out⟩
             case measure => have := Hi.out; simp [intOf]; omega
           · rw [decide_eq_false hb0] at h1
             cases hbl : Op.bytesLess nm b with
             | true =>
              have Hs2 : Hid (bestF N out (i + 1) = nm) := by show _ = _; rw [Hst.out]; unfold bstep; rw [if_neg hm, if_pos (.inr hbl)]
              clear hall hfr hm hlk hkj hb0
              go_wp2
              go_roundw
              case rel => exact ⟨i + 1, Hi.out, by simp, by rw [Hs2.out], HO3.out, HG3.out⟩
              case measure => have := Hi.out; simp [intOf]; omega
             | false =>
              have Hs2 : Hid (bestF N out (i + 1) = b) := by show _ = _; rw [Hst.out]; unfold bstep; rw [if_neg hm, if_neg (by rw [hbl]; simp [hb0])]
              clear hall hfr hm hlk hkj hb0
              go_wp2
              go_roundw
              case rel => exact ⟨i + 1, Hi.out, by simp, by rw [Hs2.out], HO3.out, HG3.out⟩
              case measure => have := Hi.out; simp [intOf]; omega
     · have hliI : ¬ (i : Int) < (n : Int) := by omega
       obtain rfl : i = n := by omega
       have Hos : Hid (outs N (j + 1) = out ++ [b]) := by show _ = _; unfold outs; rw [Hout.out, HNl.out, Hn.out, Hb.out]
       clear hli hin
       go_wp2_with (first
        | (at_builtin; refine wpList_appendx rfl _ _ 58 9 rfl i0 z0 1 16 Tryz.underlying58 hi hz hs2 hb2 hzs (by omega) _ j (out.map sv) rfl ?q1 ⟨wr.heap.size, 0, none⟩ 1 1 [.string ⟨b.toArray⟩] ?q2 rfl ?q3 ?q7 ?q4 ?q5 ?q6)
        | fail)
       case q1 => exact own_grows HO2.out (Grows.alloc' _ _)
       case q7 => first | rfl | (intro u hu; simp at hu; subst hu; rfl)
       case q4 => have := Hj.out; unfold maxLen; omega
       case q5 => have := Hj.out; omega
       intro v6 w6 hown6 hgrow6 hat6
       obtain ⟨a6, c6, rfl⟩ := own_form hown6
       have hgr6 : Grows w1 w6 := by
        have h1 : Below w1.heap.size w1 wr := HG2.out
        have h2 : Below w1.heap.size w1 (wr.alloc (.cells #[.string ⟨b.toArray⟩] 9)) := h1.alloc h1.size _
        exact h2.grown hgrow6 (Nat.le_trans h2.size (Nat.le_refl _)) (fun k hk => HOb.out k hk)
       go_wp2
       go_roundw
       case rel => exact ⟨j + 1, Hj.out, rfl, by show World.ownsRow _ _ _ _ _ _ _; rw [Hos.out, List.map_append]; simpa [sv] using hown6, fun k hk => by
        rcases hat6 with h6 | h6
        · exact HOb.out k (h6.symm.trans hk)
        · rw [h6] at hk
          have h7 := Option.some.inj hk
          have h8 := HG2.out.size
          try simp at h7
          first | omega | (have h11 : (wr.alloc (.cells #[] 9)).heap.size = wr.heap.size + 1 := (by simp [World.alloc]); omega), hgr6⟩
       case measure => have := Hj.out; simp [lenV]; omega
  · have hltI : ¬ (j : Int) < (n : Int) := by omega
    obtain rfl : j = n := by omega
    clear hlt hjn
    go_wp2
    go_ret
    exact ⟨.slice a4 j c4, rfl, by rw [Hn.out]; exact HO.out, Grows.trans' HG.out HGr.out⟩
end Go.Proofs.YtoppcpiheaedlaaGreatDoor
end
section
/-
  Names that are all different, none of them empty, taken least first: they are sorted.
-/
namespace Go.Proofs.YtoppcpiheaedlaaGreatDoor
set_option linter.unusedVariables false
set_option linter.unusedSimpArgs false
theorem best_inv (l out : List Nm) (hne : ∀ x ∈ l, x ≠ []) : ∀ i, i ≤ l.length → (bestF l out i = [] ∧ ∀ nm ∈ l.take i, nm ∈ out) ∨ (bestF l out i ∈ l.take i ∧ bestF l out i ∉ out ∧ ∀ nm ∈ l.take i, nm ∉ out → bestF l out i ≤ nm) := by
 intro i
 induction i with
 | zero => intro _; exact .inl ⟨rfl, fun nm h => by simp at h⟩
 | succ i ih =>
  intro hi
  have hi' : i < l.length := by omega
  rw [bestF_succ l out i hi', List.take_succ_eq_append_getElem hi']
  have hin := List.getElem_mem hi'
  generalize l[i] = nm at hin ⊢
  have ih := ih (by omega)
  generalize bestF l out i = b at ih ⊢
  unfold bstep
  by_cases h1 : nm ∈ out
  · rw [if_pos h1]
    rcases ih with ⟨h2, h3⟩ | ⟨h2, h3, h4⟩
    · refine .inl ⟨h2, fun x hx => ?_⟩
      rcases List.mem_append.1 hx with hx | hx
      · exact h3 x hx
      · rw [List.mem_singleton.1 hx]; exact h1
    · refine .inr ⟨List.mem_append_left _ h2, h3, fun x hx hxo => ?_⟩
      rcases List.mem_append.1 hx with hx | hx
      · exact h4 x hx hxo
      · exact absurd (by rw [List.mem_singleton.1 hx]; exact h1) hxo
  · rw [if_neg h1]
    by_cases h5 : b = []
    · rw [if_pos (.inl h5)]
      rcases ih with ⟨h2, h3⟩ | ⟨h2, h3, h4⟩
      · refine .inr ⟨List.mem_append_right _ (List.mem_singleton.2 rfl), h1, fun x hx hxo => ?_⟩
        rcases List.mem_append.1 hx with hx | hx
        · exact absurd (h3 x hx) hxo
        · rw [List.mem_singleton.1 hx]; exact List.le_refl _
      · exact absurd h5 (hne b (List.mem_of_mem_take h2))
    · rcases ih with ⟨h2, h3⟩ | ⟨h2, h3, h4⟩
      · exact absurd h2 h5
      · by_cases h6 : nm < b
        · rw [if_pos (.inr (by rw [bytesLess_eq]; exact decide_eq_true h6))]
          refine .inr ⟨List.mem_append_right _ (List.mem_singleton.2 rfl), h1, fun x hx hxo => ?_⟩
          rcases List.mem_append.1 hx with hx | hx
          · exact List.le_trans (List.le_of_lt h6) (h4 x hx hxo)
          · rw [List.mem_singleton.1 hx]; exact List.le_refl _
        · rw [if_neg (fun h => h.elim h5 (fun h => h6 (by rw [bytesLess_eq] at h; exact of_decide_eq_true h)))]
          refine .inr ⟨List.mem_append_left _ h2, h3, fun x hx hxo => ?_⟩
          rcases List.mem_append.1 hx with hx | hx
          · exact h4 x hx hxo
          · rw [List.mem_singleton.1 hx]; exact List.not_lt.1 h6
theorem outs_inv (N : List Nm) (hn : N.Nodup) (hne : ∀ x ∈ N, x ≠ []) : ∀ j, j ≤ N.length → (outs N j ++ N.filter fun x => decide (x ∉ outs N j)).Perm N ∧ (outs N j).Pairwise (· ≤ ·) ∧ ∀ x ∈ outs N j, ∀ y ∈ N, y ∉ outs N j → x ≤ y := by
 intro j
 induction j with
 | zero =>
  intro _
  refine ⟨?_, List.Pairwise.nil, fun x hx => by simp [outs] at hx⟩
  show ([] ++ N.filter fun x => decide (x ∉ [])).Perm N
  rw [List.nil_append, List.filter_eq_self.2 (fun x _ => by simp)]
 | succ j ih =>
  intro hj
  obtain ⟨hp, hs, hle⟩ := ih (by omega)
  have hrest : 0 < (N.filter fun x => decide (x ∉ outs N j)).length := by
   have := hp.length_eq
   rw [List.length_append, outs_len] at this
   omega
  obtain ⟨y, hy⟩ := List.exists_mem_of_length_pos hrest
  obtain ⟨hyN, hyo⟩ := List.mem_filter.1 hy
  have hyo' : y ∉ outs N j := of_decide_eq_true hyo
  have hb := best_inv N (outs N j) hne N.length (Nat.le_refl _)
  rw [List.take_length] at hb
  show (outs N j ++ [bestF N (outs N j) N.length] ++ N.filter fun x => decide (x ∉ outs N j ++ [bestF N (outs N j) N.length])).Perm N ∧ (outs N j ++ [bestF N (outs N j) N.length]).Pairwise (· ≤ ·) ∧ ∀ x ∈ outs N j ++ [bestF N (outs N j) N.length], ∀ y ∈ N, y ∉ outs N j ++ [bestF N (outs N j) N.length] → x ≤ y
  generalize outs N j = out at *
  generalize bestF N out N.length = b at *
  rcases hb with ⟨h2, h3⟩ | ⟨h2, h3, h4⟩
  · exact absurd (h3 y hyN) hyo'
  · refine ⟨?_, ?_, ?_⟩
    · have hf : (N.filter fun x => decide (x ∉ out ++ [b])) = (N.filter fun x => decide (x ∉ out)).erase b := by
       rw [List.Nodup.erase_eq_filter (List.Pairwise.filter _ hn) b, List.filter_filter]
       refine List.filter_congr fun x _ => ?_
       by_cases e : x = b
       · subst e; simp
       · by_cases e2 : x ∈ out
         · simp [e2]
         · simp [e, e2]
      rw [hf, List.append_assoc, List.singleton_append]
      exact ((List.perm_cons_erase (List.mem_filter.2 ⟨h2, decide_eq_true h3⟩)).symm.append_left out).trans hp
    · rw [List.pairwise_append]
      exact ⟨hs, List.pairwise_singleton _ _, fun x hx z hz => by rw [List.mem_singleton.1 hz]; exact hle x hx b h2 h3⟩
    · intro x hx z hz hzo
      have hzo' : z ∉ out := fun h => hzo (List.mem_append_left _ h)
      rcases List.mem_append.1 hx with hx | hx
      · exact hle x hx z hz hzo'
      · rw [List.mem_singleton.1 hx]; exact h4 z hz hzo'
theorem outs_sort (N : List Nm) (hn : N.Nodup) (hne : ∀ x ∈ N, x ≠ []) : outs N N.length = sortN N := by
 obtain ⟨hp, hs, _⟩ := outs_inv N hn hne N.length (Nat.le_refl _)
 have h0 : (N.filter fun x => decide (x ∉ outs N N.length)) = [] := by
  refine List.eq_nil_of_length_eq_zero ?_
  have := hp.length_eq
  rw [List.length_append, outs_len] at this
  omega
 rw [h0, List.append_nil] at hp
 rw [← sortN_perm hp]
 unfold sortN
 exact (List.mergeSort_of_pairwise (hs.imp fun h => by simpa [leB] using h)).symm
end Go.Proofs.YtoppcpiheaedlaaGreatDoor
end
