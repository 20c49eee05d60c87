import Derived.Test.YtlfiakpmnkhcdaaLZN
namespace Ob
set_option maxRecDepth 1000000 in
theorem lb1_16385 : lb1 2048 16385 = true := by decide +kernel
set_option maxRecDepth 1000000 in
theorem lb1_20481 : lb1 2048 20481 = true := by decide +kernel
set_option maxRecDepth 1000000 in
theorem lb1_24577 : lb1 2048 24577 = true := by decide +kernel
set_option maxRecDepth 1000000 in
theorem lb1_28673 : lb1 2048 28673 = true := by decide +kernel
set_option maxRecDepth 1000000 in
theorem lb1_32769 : lb1 2048 32769 = true := by decide +kernel
set_option maxRecDepth 1000000 in
theorem lb1_36865 : lb1 2048 36865 = true := by decide +kernel
end Ob
